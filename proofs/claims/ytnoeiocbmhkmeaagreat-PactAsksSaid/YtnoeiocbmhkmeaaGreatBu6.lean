/- Layer 5: letters copied. -/
import Derived.Test.YtnoeiocbmhkmeaaGreatBu5
import Derived.Test.YtnoeiocbmhkmeaaGreatBu0
import Derived.Shelf.RegionOpenPlain
import Derived.Deep.RegionLaw
import Derived.Sort.WalkB12
import Derived.Lib.SliceRun
namespace Go.Proofs.YtnoeiocbmhkmeaaGreat
open Go.RowKit
set_option linter.unusedSimpArgs false
set_option maxRecDepth 100000
set_option maxHeartbeats 80000000

section
variable {P : Program} {w : World} {ops : Array Oper} {rest : List Oper} {o : Oper} {a : Act} {Q : Exit → Act → World → Prop}
theorem wpList_nothing (hg : o.guard = none) (s x : Operand) (t : TypeId) (hop : o.op = Op.call { callee := Callee.builtin Builtin.append, args := #[s, x], argTypes := #[t, t] }) (e : TypeId) (i : TypeInfo) (ht : P.underlying t = some (.slice e)) (hi : P.info? e = some i)
 (base : Option Addr) (sLen sCap : Nat) (hle : sLen ≤ sCap) (xv : Value) (hs : a.eval s = .slice base sLen sCap) (hx : a.eval x = xv) (hsrc : Src P i.size t xv 0 [] w) (h : wpList P ops Q rest (a.put o.dst (.slice base sLen sCap)) w) :
 wpList P ops Q (o :: rest) a w := by
 refine wpList_plain hg fun K' hK' => ?_
 have hrun := run_append_nothing w t t o.type e i ht hi base sLen sCap hle xv hsrc
 unfold Oper.wp
 simp [execOp, hop, resolve, invoke, builtin, hs, hx, hrun, Result.andThen]
 exact hK' _ _ h
end
theorem cloneL_any (A : Option Addr) (n c : Nat) (ls : List Ml) (w : World) (hn : ls.length = n) (hl : n ≤ 1024) (hp : Rd 5 enc5m w A ls) :
 Calls Tryz.prog 56 #[.slice A n c] w (LetP ls w) := by
 obtain ⟨i0, hi, hz0, hz1, hz2⟩ := info_parts Tryz.infoPtL
 have q : ∀ (w : World) (a : Option Addr) (n c n' c' : Nat), (binOp .eql 31 (.slice a n c) (.slice none n' c')).run Tryz.prog w = .ok (.bool a.isNone) w := fun w a n c n' c' => Lib.run_eql_slice_nil w _ _ a n c n' c' Tryz.underlying31
 have HN := Lib.hid hn
 have HP := Lib.hid hp
 cases A with
 | none =>
   obtain rfl : ls = [] := by
    cases ls with
    | nil => rfl
    | cons x r =>
      obtain ⟨b, off, e, -⟩ := hp 0 x rfl
      cases e
   clear hn hp
   go_enter Tryz.func56, Tryz.ntmps56
   go_wp2_with fail
   go_ret
   exact ⟨none, 0, rfl, Rd_nil _ _, Gr.refl _, Nat.le_refl _⟩
 | some ad =>
   by_cases h0 : n = 0
   ·subst h0
    obtain rfl := List.eq_nil_of_length_eq_zero hn
    clear hn hp
    go_enter Tryz.func56, Tryz.ntmps56
    go_wp2_with (at_builtin; refine wpList_nothing rfl _ _ 31 rfl 59 i0 Tryz.underlying31 hi _ 0 0 (Nat.le_refl _) (.slice (some ad) 0 c) rfl rfl (Src.ofSlice _ Tryz.underlying31 ad 0 c [] (by simp) (by simp) (by simp)) ?_)
    go_ret
    exact ⟨_, 0, rfl, Rd_nil _ _, (Gr.refl w).alloc _, Nat.le_refl _⟩
   ·have h1 : 0 < n := by omega
    clear hn hp
    go_enter Tryz.func56, Tryz.ntmps56
    go_wp2_with (at_builtin; refine wpList_append_own _ rfl _ _ 31 rfl w.heap.size 59 i0 _ 5 40 Tryz.underlying31 hi hz0 hz1 hz2 rfl (by decide) _ _ _ rfl (World.ownsRow_made w #[] 0 (Nat.le_refl _) (Nat.zero_le _) (by simp)) ad n c (flatE enc5m ls) rfl ?qc1 ?qc2 ?qc3 ?qc4 ?qc5 ?qc6 ?_)
    case qc1 => rw [flatE_len enc5m_len, HN.out]
    case qc2 => exact Rd_news enc5m_len (by decide) (HP.out.keep ((Gr.refl w).alloc _))
    case qc3 => exact oneCell_flat enc5m_one ls
    case qc4 => unfold maxLen; omega
    case qc5 => omega
    case qc6 => simp
    intro v' w1 hown hgrow hnil
    have hown' : w1.ownsRow w.heap.size 59 5 v' n (flatE enc5m ls) := by simpa using hown
    have HO := Lib.hid hown'
    have HG := Lib.hid hgrow
    clear hown hgrow hnil hi hz0 hz1 hz2 q hown'
    go_wp2
    go_ret
    obtain ⟨A2, c2, rfl, h2, h3, -⟩ := own_row enc5m_len HN.out HO.out
    refine ⟨A2, c2, by rw [HN.out]; rfl, h3, ?_, by rw [HN.out]; exact h2⟩
    exact ((Below.refl _ w).alloc (Nat.le_refl _) _).grown HG.out (by simp) (by intro k hk; simp [Value.ownBlock] at hk; omega)
theorem Letters_any {B : Nat} {w : World} {N : Nx} (h : NetR B w N) (hml : N.mail.length ≤ 1024) : Calls Tryz.prog 27 #[.pointer (some ⟨N.p, 0, none⟩)] w (LetP N.mail w) := by
 have n1 := h.blk.cell 1
 obtain ⟨A, c, e, hr⟩ := h.box
 simp only [List.getElem?_toArray, List.getElem?_cons_succ, List.getElem?_cons_zero] at n1
 rw [e] at n1
 have HC := Lib.hid (cloneL_any A N.mail.length c N.mail w rfl hml hr)
 obtain ⟨n, hn⟩ : ∃ n, N.mail.length = n := ⟨_, rfl⟩
 rw [hn] at n1 HC
 have HN := Lib.hid hn
 clear e h hr hml hn
 go_enter Tryz.func27, Tryz.ntmps27
 go_wp2_with fail
 refine HC.out.mono ?_
 rintro e w1 ⟨A1, c1, rfl, hr1, hg1, hc1⟩
 rw [HN.out]
 have HR := Lib.hid (And.intro hr1 (And.intro hg1 hc1))
 clear hr1 hg1 hc1
 go_wp2_with fail
 go_ret
 exact ⟨A1, c1, by rw [HN.out]; rfl, HR.out.1, HR.out.2.1, HR.out.2.2⟩

set_option maxRecDepth 100000
set_option maxHeartbeats 80000000

def putAll (cs : Array Value) : Nat → List Value → Array Value
 | _, [] => cs
 | o, v :: r => putAll (cs.setIfInBounds o v) (o + 1) r
theorem putAll_size : ∀ (vs : List Value) (cs : Array Value) (o : Nat), (putAll cs o vs).size = cs.size
 | [], _, _ => rfl
 | v :: r, cs, o => by rw [putAll, putAll_size r]; simp
theorem putAll_get : ∀ (vs : List Value) (cs : Array Value) (o k : Nat), k < cs.size → (putAll cs o vs)[k]? = if o ≤ k ∧ k < o + vs.length then vs[k - o]? else cs[k]?
 | [], cs, o, k, h => by rw [putAll, if_neg (by simp)]
 | v :: r, cs, o, k, h => by
   rw [putAll, putAll_get r _ (o + 1) k (by simpa using h), Array.getElem?_setIfInBounds]
   by_cases e : o = k
   ·subst e
    rw [if_neg (by omega), if_pos rfl, if_pos h, if_pos (by simp)]
    simp
   ·rw [if_neg e]
    by_cases h2 : o + 1 ≤ k ∧ k < o + 1 + r.length
    ·rw [if_pos h2, if_pos (by simp; omega)]
     rw [show k - o = (k - (o + 1)) + 1 by omega, List.getElem?_cons_succ]
    ·rw [if_neg h2, if_neg (by simp; omega)]
theorem Blk.puts {g : Nat} {t : TypeId} : ∀ (vs : List Value) (o : Nat) {w : World} {cs : Array Value}, Blk w g t cs → Blk (w.setCells g o vs) g t (putAll cs o vs)
 | [], _, _, _, h => h
 | v :: r, o, _, _, h => Blk.puts r (o + 1) (h.put o v)
theorem setCells_gb {g : Nat} : ∀ (vs : List Value) (o : Nat) (w : World), Gb g w (w.setCells g o vs)
 | [], _, w => Gb.refl g w
 | v :: r, o, w => ((Gb.refl g w).put o v).trans (setCells_gb r (o + 1) _)
theorem flat_erase {α : Type} {enc : α → List Value} (l : List α) (k : Nat) : flatE enc (l.eraseIdx k) = flatE enc (l.take k) ++ flatE enc (l.drop (k + 1)) := by
 rw [List.eraseIdx_eq_take_drop_succ, flatE_app]
theorem del_row {α : Type} {enc : α → List Value} {z : Nat} (hk : ∀ x, (enc x).length = z) {w : World} {base n cap k : Nat} {t : TypeId} {g : Nat} {l : List α} (hl : l.length = n) (hkn : k < n)
 (h : w.ownsRow base t z (.slice (some ⟨g, 0, none⟩) n cap) n (flatE enc l)) (zs : List Value) :
 ((w.setCells g (k * z) (flatE enc (l.drop (k + 1)))).setCells g ((n - 1) * z) zs).ownsRow base t z (.slice (some ⟨g, 0, none⟩) (n - 1) cap) (n - 1) (flatE enc (l.eraseIdx k)) := by
 obtain ⟨h1, h2⟩ := h
 rcases h2 with ⟨e, -⟩ | ⟨g', cap', cur, e, hb, hh, hnc, hcm, hcs, htk⟩
 ·cases e
 ·injection e with e1 e2 e3
  injection e1 with e1
  injection e1 with e1
  subst e1; subst e3
  have hB : Blk w g t cur := hh
  have hB2 := Blk.puts zs ((n - 1) * z) (Blk.puts (flatE enc (l.drop (k + 1))) (k * z) hB)
  have hl1 : (l.eraseIdx k).length = n - 1 := by rw [List.length_eraseIdx, if_pos (by omega), hl]
  have hle : (flatE enc (l.eraseIdx k)).length = (n - 1) * z := by rw [flatE_len hk, hl1]
  refine ⟨hle, Or.inr ⟨g, cap, _, rfl, hb, hB2, by omega, hcm, by rw [putAll_size, putAll_size]; exact hcs, ?_⟩⟩
  have hm1 : (n - 1) * z ≤ n * z := Nat.mul_le_mul_right _ (by omega)
  have hm2 : n * z ≤ cap * z := Nat.mul_le_mul_right _ hnc
  have hld : (flatE enc (l.drop (k + 1))).length = (n - 1 - k) * z := by rw [flatE_len hk, List.length_drop, hl]; congr 1; omega
  have hmul : k * z + (n - 1 - k) * z = (n - 1) * z := by rw [← Nat.add_mul]; congr 1; omega
  have hlt : (flatE enc (l.take k)).length = k * z := by rw [flatE_len hk, List.length_take]; congr 1; omega
  apply List.ext_getElem?
  intro i
  rw [List.getElem?_take]
  by_cases hi : i < (n - 1) * z
  ·rw [if_pos hi, Array.getElem?_toList, putAll_get _ _ _ _ (by rw [putAll_size]; omega), if_neg (by omega), putAll_get _ _ _ _ (by omega), hld, flat_erase]
   by_cases hik : k * z ≤ i
   ·rw [if_pos (by omega), List.getElem?_append_right (by omega), hlt]
   ·rw [if_neg (by omega), List.getElem?_append_left (by omega)]
    have h3 : (flatE enc l)[i]? = cur[i]? := by
     rw [← htk, List.getElem?_take, if_pos (by omega), Array.getElem?_toList]
    rw [← h3]
    have h4 : flatE enc l = flatE enc (l.take k) ++ flatE enc (l.drop k) := by rw [← flatE_app, List.take_append_drop]
    rw [h4, List.getElem?_append_left (by omega)]
  ·rw [if_neg hi, List.getElem?_eq_none (by omega)]

set_option maxRecDepth 100000
set_option maxHeartbeats 80000000

theorem run_clear5 {P : Program} (w : World) (t e ty : TypeId) (ht : P.underlying t = some (.slice e)) (hv : ∀ w, (zeroValue e).run P w = .ok (.agg #[.int .i64 0, .int .i64 0, .int .i64 0, .int .i64 0, .int .i64 0]) w) (b o c : Nat)
 (hc : ∀ j, j < 5 → (w.cell? ⟨b, o + j, none⟩).isSome = true) (hf : ∀ j, j < 5 → w.frozen? ⟨b, o + j, none⟩ = false) :
 (Builtin.clear_ #[t] ty #[.slice (some ⟨b, o, none⟩) 1 c]).run P w = .ok (.tuple #[]) (w.setCells b o (List.replicate 5 (.int .i64 0))) := by
 have hzc : (Builtin.zeroCells (Value.agg #[.int .i64 0, .int .i64 0, .int .i64 0, .int .i64 0, .int .i64 0]).cells 1).toList = List.replicate 5 (.int .i64 0) := by
  simp only [Builtin.zeroCells, Value.cells]
  apply List.ext_getElem
  ·simp
  ·intro i h1 h2
   simp at h2
   simp
   have : i = 0 ∨ i = 1 ∨ i = 2 ∨ i = 3 ∨ i = 4 := by omega
   rcases this with rfl | rfl | rfl | rfl | rfl <;> rfl
 have hst := run_storeCells_cells (P := P) b o (List.replicate 5 (.int .i64 0)) 0 w (by simpa using hc) (by simpa using hf) (by intro v hv'; rw [List.eq_of_mem_replicate hv']; rfl)
 simp only [Nat.add_zero] at hst
 rw [show List.replicate 5 (Value.int .i64 0) = [.int .i64 0, .int .i64 0, .int .i64 0, .int .i64 0, .int .i64 0] from rfl] at hst hzc ⊢
 simp [Builtin.clear_, run_underlying ht, hv, hzc, hst]
theorem zero_mail (w : World) : (zeroValue 59).run Tryz.prog w = .ok (.agg #[.int .i64 0, .int .i64 0, .int .i64 0, .int .i64 0, .int .i64 0]) w := by kernel_rfl

set_option maxRecDepth 1000000 in
theorem delL_any {B : Nat} {w : World} (g n cap k : Nat) (ls : List Ml) (hn : ls.length = n) (hk : k < n) (hl : n ≤ 1024) (h : w.ownsRow B 59 5 (.slice (some ⟨g, 0, none⟩) n cap) n (flatE enc5m ls)) :
 Calls Tryz.prog 69 #[.slice (some ⟨g, 0, none⟩) n cap, .int .i64 (k : Int), .int .i64 ((k : Int) + 1)] w fun e w' =>
  e = .returned (.slice (some ⟨g, 0, none⟩) (n - 1) cap) ∧ w'.ownsRow B 59 5 (.slice (some ⟨g, 0, none⟩) (n - 1) cap) (n - 1) (flatE enc5m (ls.eraseIdx k)) ∧ Gb g w w' := by
 obtain ⟨i0, hi, -, hz1, -⟩ := info_parts Tryz.infoPtL
 have hdr := (Gr.refl w).drew
 have hown := owns_gr h hdr
 obtain ⟨cur, hbl, hnc, hcs⟩ : ∃ cur, Blk w.drew g 59 cur ∧ n ≤ cap ∧ cur.size = cap * 5 := by
  rcases hown.2 with ⟨e, -⟩ | ⟨g', cap', cur, e, hb, hh, hnc, hcm, hcs, -⟩
  ·cases e
  ·injection e with e1 e2 e3
   injection e1 with e1
   injection e1 with e1
   subst e1; subst e3
   exact ⟨cur, hh, hnc, hcs⟩
 have HDEL := Lib.hid (fun zs => del_row enc5m_len hn hk hown zs)
 obtain ⟨j, hj⟩ : ∃ j, k + 1 = j := ⟨_, rfl⟩
 have hji : (k : Int) + 1 = (j : Int) := by omega
 have hjn : j ≤ n := by omega
 obtain ⟨m, hm⟩ : ∃ m, n - j = m := ⟨_, rfl⟩
 obtain ⟨news, hnews⟩ : ∃ news, news = flatE enc5m (ls.drop j) := ⟨_, rfl⟩
 have hlen : news.length = m * 5 := by rw [hnews, flatE_len enc5m_len, List.length_drop, hn, hm]
 have hrd := Rd_of_owns enc5m_len hn hown
 obtain ⟨A, hA, hsrc⟩ : ∃ A : Addr, (if cap = j then some (⟨g, 0, none⟩ : Addr) else some ⟨g, j * 5, none⟩) = some A ∧ Hid (∀ t u, news[t]? = some u → w.drew.cell? (A.add t) = some u) := by
  by_cases hc : cap = j
  ·refine ⟨⟨g, 0, none⟩, by simp [hc], Lib.hid (fun t u hu => ?_)⟩
   have h0 : news.length = 0 := by rw [hlen]; omega
   rw [List.length_eq_zero_iff.1 h0] at hu
   simp at hu
  ·refine ⟨⟨g, j * 5, none⟩, by simp [hc], Lib.hid ?_⟩
   rw [hnews]
   refine Rd_news enc5m_len (by decide) (fun i x hx => ?_)
   rw [List.getElem?_drop] at hx
   obtain ⟨b, off, e, hc2⟩ := hrd (j + i) x hx
   injection e with e
   injection e with e1 e2
   refine ⟨g, j * 5, rfl, fun q v hv => ?_⟩
   have h3 := hc2 q v hv
   rw [← e1, ← e2] at h3
   rw [show j * 5 + i * 5 + q = 0 + (j + i) * 5 + q by omega]
   exact h3
 have s1 := Lib.hid hlen
 have s2 : Hid (∀ u ∈ news, u.oneCell' = true) := Lib.hid (by rw [hnews]; exact oneCell_flat enc5m_one _)
 have s3 : Hid (∀ t, t < news.length → (w.drew.cell? ⟨g, 0 + k * 5 + t, none⟩).isSome = true ∧ w.drew.frozen? ⟨g, 0 + k * 5 + t, none⟩ = false) := Lib.hid (fun t ht => by
  rw [hlen] at ht
  refine ⟨?_, hbl.free _⟩
  rw [hbl.cell, Array.getElem?_eq_getElem (by omega)]
  rfl)
 obtain ⟨W1, hW1⟩ : ∃ W1, W1 = w.drew.setCells g (0 + k * 5) news := ⟨_, rfl⟩
 have hbl1 : Blk W1 g 59 (putAll cur (0 + k * 5) news) := by rw [hW1]; exact Blk.puts news _ hbl
 have hps : (putAll cur (0 + k * 5) news).size = cap * 5 := by rw [putAll_size]; exact hcs
 have hkm : k + m = n - 1 := by omega
 have hone : n - (k + m) = 1 := by omega
 have hcl : ∀ ty, (Builtin.clear_ #[31] ty #[.slice (some ⟨g, (k + m) * 5, none⟩) 1 (cap - (k + m))]).run Tryz.prog W1 = .ok (.tuple #[]) (W1.setCells g ((k + m) * 5) (List.replicate 5 (.int .i64 0))) :=
  fun ty => run_clear5 W1 _ _ ty Tryz.underlying31 zero_mail g ((k + m) * 5) _ (fun q hq => by rw [hbl1.cell, Array.getElem?_eq_getElem (by omega)]; rfl) (fun q hq => hbl1.free _)
 have HW : Hid (W1 = w.drew.setCells g (0 + k * 5) news) := Lib.hid hW1
 have HFIN : Hid ((W1.setCells g ((k + m) * 5) (List.replicate 5 (.int .i64 0))).ownsRow B 59 5 (.slice (some ⟨g, 0, none⟩) (n - 1) cap) (n - 1) (flatE enc5m (ls.eraseIdx k)) ∧ Gb g w (W1.setCells g ((k + m) * 5) (List.replicate 5 (.int .i64 0)))) := Lib.hid (by
  have h1 := HDEL.out (List.replicate 5 (.int .i64 0))
  rw [hj, ← hnews] at h1
  rw [hW1, Nat.zero_add, hkm]
  exact ⟨h1, (Gb.of hdr g).trans ((setCells_gb news _ _).trans (setCells_gb _ _ _))⟩)
 have HKM := Lib.hid hkm
 have hkc : k ≤ cap := by omega
 have hjc : j ≤ cap := by omega
 have hkj : k ≤ j := by omega
 have hne : ((k : Int) == (j : Int)) = false := by simp; omega
 have hkmn : k + m ≤ n := by omega
 have hkmc : k + m ≤ cap := by omega
 have hck : ¬ cap = k + m := by omega
 have mixed : Tryz.prog.follows Departure.mixedOrders = true := by kernel_rfl
 rw [hji]
 clear hW1 hbl1 hps HDEL hown hbl hcs hrd hnews hlen h hn hkm hdr
 go_enter Tryz.func69, Tryz.ntmps69
 go_wp2_with fail
 go_region_law_o (refine step_append_room rfl (.tmp 22) (.tmp 25) 31 rfl 59 i0 5 Tryz.underlying31 hi hz1 g 0 k cap (by simp [Act.eval, Act.put]) A m (cap - j) news (by simp [Act.eval, Act.put]) s1.out hsrc.out s2.out (by omega) s3.out ?_; rw [← HW.out])
 go_wp2_with fail
 go_ret
 exact ⟨by rw [← HKM.out]; rfl, HFIN.out.1, HFIN.out.2⟩

set_option maxRecDepth 100000
set_option maxHeartbeats 80000000

theorem remove_any {B : Nat} {w : World} {N : Nx} (k : Nat) (h : NetR B w N) (hk : k < N.mail.length) (hml : N.mail.length ≤ 1024) : Calls Tryz.prog 51 #[.pointer (some ⟨N.p, 0, none⟩), .int .i64 (k : Int)] w fun e w' => e = .returned (.tuple #[]) ∧ ∃ lv', NetTo B w N { N with mail := N.mail.eraseIdx k, lv := lv' } w' := by
 obtain ⟨g, cap, elv, hcap⟩ := owns_shape h.mail (by omega)
 have n1 := h.blk.cell 1
 simp only [List.getElem?_toArray, List.getElem?_cons_succ, List.getElem?_cons_zero] at n1
 rw [elv] at n1
 have hmail := h.mail
 rw [elv] at hmail
 have HD := Lib.hid (delL_any (w := w) g N.mail.length cap k N.mail rfl hk hml hmail)
 have HH := Lib.hid h
 have HFIN : Hid (∀ w1, w1.ownsRow B 59 5 (.slice (some ⟨g, 0, none⟩) (N.mail.length - 1) cap) (N.mail.length - 1) (flatE enc5m (N.mail.eraseIdx k)) → Gb g w w1 →
  Blk w1 N.p 68 #[N.sv, N.lv, .int .i64 N.begun] ∧ NetTo B w N { N with mail := N.mail.eraseIdx k, lv := .slice (some ⟨g, 0, none⟩) (N.mail.length - 1) cap } (w1.setCell ⟨N.p, 1, none⟩ (.slice (some ⟨g, 0, none⟩) (N.mail.length - 1) cap))) := Lib.hid (fun w1 ho hg => by
  have e1 : (N.mail.eraseIdx k).length = N.mail.length - 1 := by rw [List.length_eraseIdx, if_pos hk]
  have h1 := h.newMail (w6 := w1) (lv' := .slice (some ⟨g, 0, none⟩) (N.mail.length - 1) cap) (ml' := N.mail.eraseIdx k) (by rw [elv]; exact hg) (by rw [e1]; exact ho) (Or.inl (by rw [elv]; rfl))
  exact ⟨h1.1, h1.2.1, h1.2.2.1, h1.2.2.2, rfl, rfl⟩)
 have hw1 : IntKind.i64.wrap ((k : Int) + 1) = (k : Int) + 1 := IntWalk.i64_in _ (by omega)
 obtain ⟨n, hn⟩ : ∃ n, N.mail.length = n := ⟨_, rfl⟩
 rw [hn] at n1 HD HFIN
 clear h hk hml elv hmail hn hcap
 go_enter Tryz.func51, Tryz.ntmps51
 go_wp2_with fail
 refine HD.out.mono ?_
 rintro e w1 ⟨rfl, ho, hg⟩
 obtain ⟨hb, hto⟩ := HFIN.out w1 ho hg
 have c1 := hb.cell 1
 have f1 := hb.free 1
 have HTO := Lib.hid hto
 clear hb hto ho hg HD HFIN
 go_wp2_with fail
 refine end0p (by rfl) (by rfl) ⟨rfl, _, HTO.out⟩

set_option maxRecDepth 100000
set_option maxHeartbeats 80000000

section
variable {B : Nat} {w w1 w2 : World} {s : Sx}
theorem siteProm {l : List (Int × (Int × Int))} (h : Its B w (siteIt s)) (hb : Gb s.mp w w1) (hm : Mp Tryz.prog 3 intK promV w1 s.mp l) : Its B w1 (siteIt { s with prom := l }) := by
 have h2 : Its B w ([(s.p, .cells 84 (siteCs s))] ++ [(s.mp, .proms s.prom)] ++ ([(s.mq, .bools s.kept), (s.mr, .bools s.drop), (s.mo, .deals s.opn), (s.mg, .deals s.grt)] ++ (s.opn.flatMap dlIt ++ s.grt.flatMap dlIt))) := by
  unfold siteIt at h; simpa using h
 have h3 := h2.turn (D' := .proms l) hb hm
 unfold siteIt; exact h3
theorem siteKept {l : List (Int × Bool)} (h : Its B w (siteIt s)) (hb : Gb s.mq w w1) (hm : Mp Tryz.prog 3 intK boolV w1 s.mq l) : Its B w1 (siteIt { s with kept := l }) := by
 have h2 : Its B w ([(s.p, .cells 84 (siteCs s)), (s.mp, .proms s.prom)] ++ [(s.mq, .bools s.kept)] ++ ([(s.mr, .bools s.drop), (s.mo, .deals s.opn), (s.mg, .deals s.grt)] ++ (s.opn.flatMap dlIt ++ s.grt.flatMap dlIt))) := by
  unfold siteIt at h; simpa using h
 have h3 := h2.turn (D' := .bools l) hb hm
 unfold siteIt; exact h3
theorem siteDrop {l : List (Int × Bool)} (h : Its B w (siteIt s)) (hb : Gb s.mr w w1) (hm : Mp Tryz.prog 3 intK boolV w1 s.mr l) : Its B w1 (siteIt { s with drop := l }) := by
 have h2 : Its B w ([(s.p, .cells 84 (siteCs s)), (s.mp, .proms s.prom), (s.mq, .bools s.kept)] ++ [(s.mr, .bools s.drop)] ++ ([(s.mo, .deals s.opn), (s.mg, .deals s.grt)] ++ (s.opn.flatMap dlIt ++ s.grt.flatMap dlIt))) := by
  unfold siteIt at h; simpa using h
 have h3 := h2.turn (D' := .bools l) hb hm
 unfold siteIt; exact h3
theorem siteBlk_same {s' : Sx} (h : blks (siteIt s') = blks (siteIt s)) : ∀ g ∈ blks (siteIt s'), g ∈ blks (siteIt s) ∨ w.heap.size ≤ g := fun g hg => Or.inl (by rw [← h]; exact hg)
theorem StepP.of {s' : Sx} {l : List Ml} {e : Ending} (hi : Its B w1 (siteIt s')) (hc : Ch (blks (siteIt s)) w w1) (hp : s'.p = s.p) (hb : ∀ g ∈ blks (siteIt s'), g ∈ blks (siteIt s) ∨ w.heap.size ≤ g) (hl : LetP l w1 e w2) : StepP B w s s' l e w2 := by
 obtain ⟨A, c, rfl, hr, hg, hcl⟩ := hl
 exact ⟨⟨A, c, rfl, hr, hcl⟩, hi.keep hg, hc.gr hg, hp, hb⟩
end
theorem LetP_nil (w : World) : LetP [] w (.returned (.slice none 0 0)) w := ⟨none, 0, rfl, Rd_nil _ _, Gr.refl _, Nat.le_refl _⟩
theorem outS_cases (s : Sx) (tx : Int) : outS s tx = 0 ∨ outS s tx = 1 ∨ outS s tx = 2 ∨ outS s tx = 3 := by
 unfold outS; repeat' split
 all_goals omega
def askS (s : Sx) (m : Ml) : Sx := if outS s m.2.2.2.1 ≠ 0 then s else if posS s m.2.2.2.2 then { s with prom := mput s.prom m.2.2.2.1 (m.1, m.2.2.2.2) } else { s with drop := mput s.drop m.2.2.2.1 true }
def askL (s : Sx) (m : Ml) : List Ml := if outS s m.2.2.2.1 = 1 then [repL s m 2] else if outS s m.2.2.2.1 = 2 then [] else if outS s m.2.2.2.1 = 3 then [repL s m 3] else if posS s m.2.2.2.2 then [repL s m 2] else [repL s m 3]

theorem ask_any {B : Nat} {s : Sx} (m : Ml) (w : World) (h : Its B w (siteIt s)) (htx : I64 m.2.2.2.1) (hs : 0 ≤ s.stock ∧ s.stock ≤ 1099511627776) (hc : -1099511627776 ≤ m.2.2.2.2 ∧ m.2.2.2.2 ≤ 1099511627776) (hb : PrB s.prom) :
 Calls Tryz.prog 82 #[.pointer (some ⟨s.p, 0, none⟩), .agg #[.int .i64 m.1, .int .i64 m.2.1, .int .i64 m.2.2.1, .int .i64 m.2.2.2.1, .int .i64 m.2.2.2.2]] w (StepP B w s (askS s m) (askL s m)) := by
 obtain ⟨f, t, kd, tx, n⟩ := m
 dsimp only at htx hc ⊢
 obtain ⟨kl, hkl⟩ := intp_key htx
 have HAS : Hid (askS s (f, t, kd, tx, n) = if outS s tx ≠ 0 then s else if posS s n then { s with prom := mput s.prom tx (f, n) } else { s with drop := mput s.drop tx true }) := Lib.hid rfl
 have HAL : Hid (askL s (f, t, kd, tx, n) = if outS s tx = 1 then [repL s (f, t, kd, tx, n) 2] else if outS s tx = 2 then [] else if outS s tx = 3 then [repL s (f, t, kd, tx, n) 3] else if posS s n then [repL s (f, t, kd, tx, n) 2] else [repL s (f, t, kd, tx, n) 3]) := Lib.hid rfl
 generalize askS s (f, t, kd, tx, n) = s1 at HAS ⊢
 generalize askL s (f, t, kd, tx, n) = l1 at HAL ⊢
 have HO := Lib.hid (fun W (hW : Gr w W) => outcome_any tx W (h.keep hW) htx)
 have HPS := Lib.hid (fun W (hW : Gr w W) => possible5_any n W (h.keep hW) hs hc hb)
 have HR := Lib.hid (fun (s' : Sx) (k : Int) W (hI : Its B W (siteIt s')) => reply_any (s := s') (f, t, kd, tx, n) k W hI)
 have HH := Lib.hid h
 have c3 := h.sCells.2.2.2.1
 have c5 := h.sCells.2.2.2.2.2.1
 have hlt : s.p < w.heap.size := (h.lt (g := s.p) (by simp [siteIt, blks])).1
 have hne1 : s.p ≠ s.mp := h.ne (i := 0) (j := 1) (by omega) rfl rfl
 have hne3 : s.p ≠ s.mr := h.ne (i := 0) (j := 3) (by omega) rfl rfl
 have hmp : s.mp < w.heap.size := h.sProm.lt
 have hmr : s.mr < w.heap.size := h.sDrop.lt
 clear htx hs hc hb h
 have HLT := Lib.hid (And.intro hlt (And.intro hne1 (And.intro hne3 (And.intro hmp hmr))))
 clear hlt hne1 hne3 hmp hmr
 go_enter Tryz.func82, Tryz.ntmps82
 go_upto_region 1 with fail
 generalize hW1 : World.alloc w _ = w1
 have hg1 : Gr w w1 := by rw [← hW1]; exact (Gr.refl w).alloc _
 have hbk : Blk w1 w.heap.size 59 #[.int .i64 f, .int .i64 t, .int .i64 kd, .int .i64 tx, .int .i64 n] := by rw [← hW1]; exact Blk.new w _ _ rfl
 obtain ⟨U, hU⟩ : ∃ U, w.heap.size = U := ⟨_, rfl⟩
 rw [hU] at hbk ⊢
 have HU := Lib.hid hU
 have HB := Lib.hid hbk
 clear hW1 hbk hU
 have b3 : w1.cell? ⟨U, 3, none⟩ = some (.int .i64 tx) := HB.out.cell 3
 go_wp2_with fail
 refine (HO.out _ hg1).mono ?_
 rintro e w2 ⟨rfl, hg2⟩
 have hgr2 := hg1.trans hg2
 have HB2 := Lib.hid (HB.out.keep hg2)
 clear b3 hg1 hg2 HB
 have b0 : w2.cell? ⟨U, 0, none⟩ = some (.int .i64 f) := HB2.out.cell 0
 have b1 : w2.cell? ⟨U, 1, none⟩ = some (.int .i64 t) := HB2.out.cell 1
 have b2 : w2.cell? ⟨U, 2, none⟩ = some (.int .i64 kd) := HB2.out.cell 2
 have b3 : w2.cell? ⟨U, 3, none⟩ = some (.int .i64 tx) := HB2.out.cell 3
 have b4 : w2.cell? ⟨U, 4, none⟩ = some (.int .i64 n) := HB2.out.cell 4
 have HI2 := Lib.hid (HH.out.keep hgr2)
 rcases outS_cases s tx with h0 | h0 | h0 | h0
 ·rw [h0]
  go_wp2_with fail
  refine (HPS.out _ hgr2).mono ?_
  rintro e w3 ⟨rfl, hg3⟩
  have hgr3 := hgr2.trans hg3
  have HB3 := Lib.hid (HB2.out.keep hg3)
  have HI3 := Lib.hid (HH.out.keep hgr3)
  replace b0 := hg3.keep b0
  replace b1 := hg3.keep b1
  replace b2 := hg3.keep b2
  replace b3 := hg3.keep b3
  replace b4 := hg3.keep b4
  replace c3 := hgr3.keep c3
  replace c5 := hgr3.keep c5
  clear hg3
  cases hp : posS s n with
  | false =>
    have HS1 : Hid (s1 = { s with drop := mput s.drop tx true }) := Lib.hid (by rw [HAS.out, if_neg (by omega), hp]; rfl)
    have HL1 : Hid (l1 = [repL s (f, t, kd, tx, n) 3]) := Lib.hid (by rw [HAL.out, if_neg (by omega), if_neg (by omega), if_neg (by omega), hp]; rfl)
    clear h0 hp
    have HMM := Lib.hid ((HI3.out.keep (Gr.refl w3).drew).sDrop)
    have HLS : Hid ((s.p < w3.drew.heap.size ∧ s.p ≠ s.mr) ∧ (U < w3.drew.heap.size ∧ U ≠ s.mr)) := Lib.hid (by have h1 := HLT.out; have h2 := HU.out; have h3 := hgr3.size; have h4 := HB3.out.lt; exact ⟨⟨by show s.p < w3.heap.size; omega, h1.2.2.1⟩, h4, by omega⟩)
    go_upto_region 9 with fail
    refine wp_region_held_drew (S := (fun W' => W'.cell? ⟨s.p, 5, none⟩ = some (.map (some s.mr)) ∧ W'.cell? ⟨U, 0, none⟩ = some (.int .i64 f) ∧ W'.cell? ⟨U, 3, none⟩ = some (.int .i64 tx) ∧ W'.cell? ⟨U, 4, none⟩ = some (.int .i64 n))) ?_ ?_ (fun hHeld => ?_)
    ·kernel_rfl
    ·((try dsimp only); (try go_split_ands); (repeat' apply And.intro) <;> repeat first | assumption | exact Gr.refl _ | refine Gr.drew ?_ | refine Gr.alloc ?_ _ | refine alloc_old ?_ | refine Gr.keep (by assumption) ?_ | refine Gr.trans ?_ (by assumption))
    refine ti 0 (some 26) rfl rfl ?_; try simp only [Act.put, lA, lB, lC]
    refine ti 1 (some 27) rfl rfl ?_; try simp only [Act.put, lA, lB, lC]
    refine ti 2 (some 28) rfl rfl ?_; try simp only [Act.put, lA, lB, lC]
    refine ti 3 (some 29) rfl rfl ?_; try simp only [Act.put, lA, lB, lC]
    refine ti 4 (some 30) rfl rfl ?_; try simp only [Act.put, lA, lB, lC]
    refine ti 5 (some 31) rfl rfl ?_; try simp only [Act.put, lA, lB, lC]
    refine tr [6] (.cons rfl (fun K hK => ?_) .nil)
    first | (refine held_update (by rfl) (.tmp 29) (.tmp 31) (.const (.bool true)) _ (by rfl) HMM.out intK_inj intp_law _ Tryz.underlying81 tx true kl hkl (by rfl) (by rfl) (by rfl) (by rfl) ?_; intro w5 hm5 hb5; have y0 := gb_cell5 hb5 hHeld.1 HLS.out.1.1 HLS.out.1.2; have y1 := gb_cell5 hb5 hHeld.2.1 HLS.out.2.1 HLS.out.2.2; have y2 := gb_cell5 hb5 hHeld.2.2.1 HLS.out.2.1 HLS.out.2.2; have y3 := gb_cell5 hb5 hHeld.2.2.2 HLS.out.2.1 HLS.out.2.2; have HM5 := Lib.hid hm5; have HB5 := Lib.hid hb5; clear hm5 hb5)
    refine hK.out _ _ ?_ (fun hHeld => ?_)
    ·((try dsimp only); (try go_split_ands); (repeat' apply And.intro) <;> repeat first | assumption | exact Gr.refl _ | refine Gr.drew ?_ | refine Gr.alloc ?_ _ | refine alloc_old ?_ | refine Gr.keep (by assumption) ?_ | refine Gr.trans ?_ (by assumption))
    clear hK K; try simp only [Act.put, lA, lB, lC]
    refine wpAnyH_done ?_ ?_ _
    ·kernel_rfl
    rotate_left
    all_goals
     have HI5 := Lib.hid (siteDrop (HI3.out.keep (Gr.refl w3).drew) HB5.out HM5.out)
     have HC5 : Hid (Ch (blks (siteIt s)) w w5) := Lib.hid ((Ch.of (hgr3.trans (Gr.refl w3).drew)).trans (Ch.gb HB5.out (by simp [siteIt, blks])) (fun g hg => Or.inl hg))
     have HK5 : Hid (Blk w5 U 59 #[.int .i64 f, .int .i64 t, .int .i64 kd, .int .i64 tx, .int .i64 n]) := Lib.hid ((HB3.out.keep (Gr.refl w3).drew).grown HB5.out (fun e => HLS.out.2.2 (by injection e)))
     clear hHeld y0 y1 y2 y3 b0 b1 b2 b3 b4 c3 c5 hkl
     have b0 : w5.cell? ⟨U, 0, none⟩ = some (.int .i64 f) := HK5.out.cell 0
     have b1 : w5.cell? ⟨U, 1, none⟩ = some (.int .i64 t) := HK5.out.cell 1
     have b2 : w5.cell? ⟨U, 2, none⟩ = some (.int .i64 kd) := HK5.out.cell 2
     have b3 : w5.cell? ⟨U, 3, none⟩ = some (.int .i64 tx) := HK5.out.cell 3
     have b4 : w5.cell? ⟨U, 4, none⟩ = some (.int .i64 n) := HK5.out.cell 4
     go_wp2_with fail
     refine (HR.out _ 3 w5 HI5.out).mono ?_
     intro e w6 hlet
     have HF : Hid (StepP B w s s1 l1 e w6) := Lib.hid (by rw [HS1.out, HL1.out]; exact StepP.of HI5.out HC5.out rfl (fun g hg => Or.inl hg) hlet)
     obtain ⟨A, c, rfl, -⟩ := HF.out.let5
     clear hlet b0 b1 b2 b3 b4
     go_wp2_with fail
     go_ret
     exact HF.out
  | true =>
    have HS1 : Hid (s1 = { s with prom := mput s.prom tx (f, n) }) := Lib.hid (by rw [HAS.out, if_neg (by omega), hp]; rfl)
    have HL1 : Hid (l1 = [repL s (f, t, kd, tx, n) 2]) := Lib.hid (by rw [HAL.out, if_neg (by omega), if_neg (by omega), if_neg (by omega), hp]; rfl)
    clear h0 hp
    have HMM := Lib.hid ((HI3.out.keep (Gr.refl w3).drew).sProm)
    have HLS : Hid ((s.p < w3.drew.heap.size ∧ s.p ≠ s.mp) ∧ (U < w3.drew.heap.size ∧ U ≠ s.mp)) := Lib.hid (by have h1 := HLT.out; have h2 := HU.out; have h3 := hgr3.size; have h4 := HB3.out.lt; exact ⟨⟨by show s.p < w3.heap.size; omega, h1.2.1⟩, h4, by omega⟩)
    go_upto_region 11 with fail
    refine wp_region_held_drew (S := (fun W' => W'.cell? ⟨s.p, 3, none⟩ = some (.map (some s.mp)) ∧ W'.cell? ⟨U, 0, none⟩ = some (.int .i64 f) ∧ W'.cell? ⟨U, 3, none⟩ = some (.int .i64 tx) ∧ W'.cell? ⟨U, 4, none⟩ = some (.int .i64 n))) ?_ ?_ (fun hHeld => ?_)
    ·kernel_rfl
    ·((try dsimp only); (try go_split_ands); (repeat' apply And.intro) <;> repeat first | assumption | exact Gr.refl _ | refine Gr.drew ?_ | refine Gr.alloc ?_ _ | refine alloc_old ?_ | refine Gr.keep (by assumption) ?_ | refine Gr.trans ?_ (by assumption))
    refine ti 0 (some 35) rfl rfl ?_; try simp only [Act.put, lA, lB, lC]
    refine ti 1 (some 36) rfl rfl ?_; try simp only [Act.put, lA, lB, lC]
    refine ti 2 (some 37) rfl rfl ?_; try simp only [Act.put, lA, lB, lC]
    refine ti 3 (some 38) rfl rfl ?_; try simp only [Act.put, lA, lB, lC]
    refine ti 4 (some 39) rfl rfl ?_; try simp only [Act.put, lA, lB, lC]
    refine ti 5 (some 40) rfl rfl ?_; try simp only [Act.put, lA, lB, lC]
    refine ti 6 (some 41) rfl rfl ?_; try simp only [Act.put, lA, lB, lC]
    refine ti 7 (some 42) rfl rfl ?_; try simp only [Act.put, lA, lB, lC]
    refine ti 8 (some 43) rfl rfl ?_; try simp only [Act.put, lA, lB, lC]
    refine ti 9 (some 44) rfl rfl ?_; try simp only [Act.put, lA, lB, lC]
    refine ti 10 (some 45) rfl rfl ?_; try simp only [Act.put, lA, lB, lC]
    refine tr [11] (.cons rfl (fun K hK => ?_) .nil)
    first | (refine held_update (by rfl) (.tmp 38) (.tmp 40) (.tmp 45) _ (by rfl) HMM.out intK_inj intp_law _ Tryz.underlying80 tx (f, n) kl hkl (by rfl) (by rfl) (by rfl) (by rfl) ?_; intro w5 hm5 hb5; have y0 := gb_cell5 hb5 hHeld.1 HLS.out.1.1 HLS.out.1.2; have y1 := gb_cell5 hb5 hHeld.2.1 HLS.out.2.1 HLS.out.2.2; have y2 := gb_cell5 hb5 hHeld.2.2.1 HLS.out.2.1 HLS.out.2.2; have y3 := gb_cell5 hb5 hHeld.2.2.2 HLS.out.2.1 HLS.out.2.2; have HM5 := Lib.hid hm5; have HB5 := Lib.hid hb5; clear hm5 hb5)
    refine hK.out _ _ ?_ (fun hHeld => ?_)
    ·((try dsimp only); (try go_split_ands); (repeat' apply And.intro) <;> repeat first | assumption | exact Gr.refl _ | refine Gr.drew ?_ | refine Gr.alloc ?_ _ | refine alloc_old ?_ | refine Gr.keep (by assumption) ?_ | refine Gr.trans ?_ (by assumption))
    clear hK K; try simp only [Act.put, lA, lB, lC]
    refine wpAnyH_done ?_ ?_ _
    ·kernel_rfl
    rotate_left
    all_goals
     have HI5 := Lib.hid (siteProm (HI3.out.keep (Gr.refl w3).drew) HB5.out HM5.out)
     have HC5 : Hid (Ch (blks (siteIt s)) w w5) := Lib.hid ((Ch.of (hgr3.trans (Gr.refl w3).drew)).trans (Ch.gb HB5.out (by simp [siteIt, blks])) (fun g hg => Or.inl hg))
     have HK5 : Hid (Blk w5 U 59 #[.int .i64 f, .int .i64 t, .int .i64 kd, .int .i64 tx, .int .i64 n]) := Lib.hid ((HB3.out.keep (Gr.refl w3).drew).grown HB5.out (fun e => HLS.out.2.2 (by injection e)))
     clear hHeld y0 y1 y2 y3 b0 b1 b2 b3 b4 c3 c5 hkl
     have b0 : w5.cell? ⟨U, 0, none⟩ = some (.int .i64 f) := HK5.out.cell 0
     have b1 : w5.cell? ⟨U, 1, none⟩ = some (.int .i64 t) := HK5.out.cell 1
     have b2 : w5.cell? ⟨U, 2, none⟩ = some (.int .i64 kd) := HK5.out.cell 2
     have b3 : w5.cell? ⟨U, 3, none⟩ = some (.int .i64 tx) := HK5.out.cell 3
     have b4 : w5.cell? ⟨U, 4, none⟩ = some (.int .i64 n) := HK5.out.cell 4
     go_wp2_with fail
     refine (HR.out _ 2 w5 HI5.out).mono ?_
     intro e w6 hlet
     have HF : Hid (StepP B w s s1 l1 e w6) := Lib.hid (by rw [HS1.out, HL1.out]; exact StepP.of HI5.out HC5.out rfl (fun g hg => Or.inl hg) hlet)
     obtain ⟨A, c, rfl, -⟩ := HF.out.let5
     clear hlet b0 b1 b2 b3 b4
     go_wp2_with fail
     go_ret
     exact HF.out
 ·rw [h0]
  have HS1 : Hid (s1 = s) := Lib.hid (by rw [HAS.out, if_pos (by omega)])
  have HL1 : Hid (l1 = [repL s (f, t, kd, tx, n) 2]) := Lib.hid (by rw [HAL.out, if_pos h0])
  clear h0
  go_wp2_with fail
  refine (HR.out s 2 w2 HI2.out).mono ?_
  intro e w3 hlet
  have HF : Hid (StepP B w s s1 l1 e w3) := Lib.hid (by rw [HS1.out, HL1.out]; exact StepP.of HI2.out (Ch.of hgr2) rfl (fun g hg => Or.inl hg) hlet)
  obtain ⟨A, c, rfl, -⟩ := HF.out.let5
  clear hlet b0 b1 b2 b3 b4
  go_wp2_with fail
  go_ret
  exact HF.out
 ·rw [h0]
  have HS1 : Hid (s1 = s) := Lib.hid (by rw [HAS.out, if_pos (by omega)])
  have HL1 : Hid (l1 = []) := Lib.hid (by rw [HAL.out, if_neg (by omega), if_pos h0])
  clear h0
  go_wp2_with fail
  go_ret
  rw [HS1.out, HL1.out]
  exact StepP.of HI2.out (Ch.of hgr2) rfl (fun g hg => Or.inl hg) (LetP_nil _)
 ·rw [h0]
  have HS1 : Hid (s1 = s) := Lib.hid (by rw [HAS.out, if_pos (by omega)])
  have HL1 : Hid (l1 = [repL s (f, t, kd, tx, n) 3]) := Lib.hid (by rw [HAL.out, if_neg (by omega), if_neg (by omega), if_pos h0])
  clear h0
  go_wp2_with fail
  refine (HR.out s 3 w2 HI2.out).mono ?_
  intro e w3 hlet
  have HF : Hid (StepP B w s s1 l1 e w3) := Lib.hid (by rw [HS1.out, HL1.out]; exact StepP.of HI2.out (Ch.of hgr2) rfl (fun g hg => Or.inl hg) hlet)
  obtain ⟨A, c, rfl, -⟩ := HF.out.let5
  clear hlet b0 b1 b2 b3 b4
  go_wp2_with fail
  go_ret
  exact HF.out

end Go.Proofs.YtnoeiocbmhkmeaaGreat
