/- Layer 5: what is always true of a net: bounds of stocks, promises, deals and letters. -/
import Derived.Test.YtnoeiocbmhkmeaaGreatBu11
namespace Go.Proofs.YtnoeiocbmhkmeaaGreat
set_option linter.unusedSimpArgs false
set_option maxRecDepth 100000
set_option maxHeartbeats 80000000

structure OkD (q : Nat) (d : Dl) : Prop where
 lo : 1 ≤ d.parts.length
 hi : d.parts.length ≤ 8
 part : ∀ p ∈ d.parts, 0 ≤ p.1 ∧ p.1 < (q : Int) ∧ -1099511627776 ≤ p.2 ∧ p.2 ≤ 1099511627776
structure OkM (q : Nat) (b : Int) (m : Ml) : Prop where
 fr : 0 ≤ m.1 ∧ m.1 < (q : Int)
 dst : 0 ≤ m.2.1 ∧ m.2.1 < (q : Int)
 kind : 1 ≤ m.2.2.1 ∧ m.2.2.1 ≤ 7
 tx : 1 ≤ m.2.2.2.1 ∧ m.2.2.2.1 ≤ b
 n : -1099511627776 ≤ m.2.2.2.2 ∧ m.2.2.2.2 ≤ 1099511627776
structure OkS (q : Nat) (b : Int) (s : Sx) : Prop where
 num : 0 ≤ s.num ∧ s.num < (q : Int)
 lo : 0 ≤ s.stock + sumP (-1) s.prom
 hi : s.stock + sumP 0 s.prom ≤ 1099511627776
 promA : s.prom.Pairwise (fun p q => p.1 ≠ q.1)
 prom : ∀ e ∈ s.prom, (1 ≤ e.1 ∧ e.1 ≤ b) ∧ (0 ≤ e.2.1 ∧ e.2.1 < (q : Int)) ∧ -1099511627776 ≤ e.2.2 ∧ e.2.2 ≤ 1099511627776
 opnA : s.opn.Pairwise (fun p q => p.1 ≠ q.1)
 opn : ∀ e ∈ s.opn, (1 ≤ e.1 ∧ e.1 ≤ b) ∧ OkD q e.2
 grtA : s.grt.Pairwise (fun p q => p.1 ≠ q.1)
 grt : ∀ e ∈ s.grt, (1 ≤ e.1 ∧ e.1 ≤ b) ∧ OkD q e.2
 apart : ∀ e ∈ s.opn, mget s.grt e.1 = none
structure OkN (N : Nx) : Prop where
 lo : 1 ≤ N.sites.length
 hi : N.sites.length ≤ 8
 beg : 0 ≤ N.begun ∧ N.begun ≤ 256
 site : ∀ (k : Nat) (s : Sx), N.sites[k]? = some s → OkS N.sites.length N.begun s ∧ s.num = (k : Int)
 room : N.mail.length ≤ 1024
 mail : ∀ m ∈ N.mail, OkM N.sites.length N.begun m

theorem sumP_app (c : Int) : ∀ (a b : List (Int × (Int × Int))), sumP c (a ++ b) = sumP c a + sumP c b
 | [], b => by simp [sumP]
 | e :: r, b => by simp only [List.cons_append, sumP, sumP_app c r b]; omega
theorem sumP_neg : ∀ (l : List (Int × (Int × Int))), sumP (-1) l ≤ 0
 | [] => by simp [sumP]
 | e :: r => by
   have := sumP_neg r
   simp only [sumP, addP]
   split
   ·rename_i h
    have : e.2.2 < 0 := by simpa using h
    omega
   ·omega
theorem sumP_pos : ∀ (l : List (Int × (Int × Int))), 0 ≤ sumP 0 l
 | [] => by simp [sumP]
 | e :: r => by
   have := sumP_pos r
   simp only [sumP, addP]
   split
   ·rename_i h
    have : ¬ e.2.2 < 0 := by simpa using h
    omega
   ·omega
theorem sumP_sign {c c' : Int} (h : decide (c < 0) = decide (c' < 0)) : ∀ (l : List (Int × (Int × Int))), sumP c l = sumP c' l
 | [] => rfl
 | e :: r => by simp only [sumP, addP, h, sumP_sign h r]
theorem OkS.stock {q : Nat} {b : Int} {s : Sx} (h : OkS q b s) : 0 ≤ s.stock ∧ s.stock ≤ 1099511627776 := by
 have h1 := sumP_neg s.prom
 have h2 := sumP_pos s.prom
 have h3 := h.lo
 have h4 := h.hi
 omega
theorem keys_few {β : Type} {l : List (Int × β)} (hp : l.Pairwise (fun p q => p.1 ≠ q.1)) {b : Int} (hb : b ≤ 256) (h : ∀ e ∈ l, 1 ≤ e.1 ∧ e.1 ≤ b) : l.length ≤ 256 := by
 have h1 : (l.map (fun e => e.1.toNat)).Nodup := by
  rw [List.nodup_iff_pairwise_ne, List.pairwise_map]
  refine hp.imp_of_mem ?_
  intro p q hp hq hne e
  have := h p hp
  have := h q hq
  omega
 have h2 := List.Nodup.length_le_of_subset h1 (l₂ := List.range' 1 256) (fun x hx => by
  obtain ⟨e, he, rfl⟩ := List.mem_map.1 hx
  have := h e he
  rw [List.mem_range'_1]
  omega)
 rw [List.length_map, List.length_range'] at h2
 exact h2
theorem OkS.prB {q : Nat} {b : Int} {s : Sx} (h : OkS q b s) (hb : b ≤ 256) : PrB s.prom :=
 ⟨by have := keys_few h.promA hb (fun e he => (h.prom e he).1); omega, fun e he => (h.prom e he).2.2⟩

section
variable {β : Type} {l : List (Int × β)} {a : Int} {x : β}
theorem mdel_sub : ∀ e ∈ mdel l a, e ∈ l := fun _ he => (List.mem_filter.1 he).1
theorem mdel_ne : ∀ e ∈ mdel l a, e.1 ≠ a := fun e he => by have := (List.mem_filter.1 he).2; simpa using this
theorem mdel_apart (h : l.Pairwise (fun p q => p.1 ≠ q.1)) : (mdel l a).Pairwise (fun p q => p.1 ≠ q.1) := h.filter _
theorem mem_mput {e : Int × β} (h : e ∈ mput l a x) : e = (a, x) ∨ (e ∈ l ∧ e.1 ≠ a) := by
 unfold mput at h
 split at h
 ·obtain ⟨p, hp, rfl⟩ := List.mem_map.1 h
  split
  ·exact Or.inl rfl
  ·rename_i hne; exact Or.inr ⟨hp, hne⟩
 ·rename_i hn
  rcases List.mem_append.1 h with h | h
  ·refine Or.inr ⟨h, ?_⟩
   have : mget l a = none := by cases hg : mget l a <;> simp_all
   exact mget_none.1 this e h
  ·exact Or.inl (List.mem_singleton.1 h)
theorem mput_keys (h : (mget l a).isSome = true) : (mput l a x).map (·.1) = l.map (·.1) := by
 unfold mput
 rw [if_pos h, List.map_map]
 apply List.map_congr_left
 intro p _
 simp only [Function.comp]
 split
 ·rename_i e; exact e.symm
 ·rfl
theorem mput_apart (h : l.Pairwise (fun p q => p.1 ≠ q.1)) : (mput l a x).Pairwise (fun p q => p.1 ≠ q.1) := by
 by_cases hs : (mget l a).isSome = true
 ·have h1 := mput_keys (x := x) hs
  have h2 : (l.map (·.1)).Pairwise (· ≠ ·) := List.pairwise_map.2 h
  rw [← h1] at h2
  exact List.pairwise_map.1 h2
 ·have hn : mget l a = none := by cases hg : mget l a <;> simp_all
  unfold mput
  rw [if_neg hs]
  refine List.pairwise_append.2 ⟨h, List.pairwise_singleton _ _, fun p hp q hq => ?_⟩
  rw [List.mem_singleton.1 hq]
  exact mget_none.1 hn p hp
end

section
variable {q : Nat} {b : Int} {s : Sx} {m : Ml}
theorem rep_ok (h : OkS q b s) (hm : OkM q b m) {k : Int} (hk : 1 ≤ k ∧ k ≤ 7) : OkM q b (repL s m k) := ⟨h.num, hm.fr, hk, hm.tx, by simp [repL]⟩
theorem wr_ok (h : OkS q b s) {k tx : Int} {ps : List Mv} (hk : 1 ≤ k ∧ k ≤ 7) (ht : 1 ≤ tx ∧ tx ≤ b) (hp : ∀ p ∈ ps, 0 ≤ p.1 ∧ p.1 < (q : Int) ∧ -1099511627776 ≤ p.2 ∧ p.2 ≤ 1099511627776) : ∀ l ∈ wrL s k tx ps, OkM q b l := fun l hl => by
 obtain ⟨p, hm, rfl⟩ := List.mem_map.1 hl
 have h1 := hp p hm
 refine ⟨h.num, ⟨h1.1, h1.2.1⟩, hk, ht, ?_⟩
 show -1099511627776 ≤ (if k = 1 then p.2 else 0) ∧ (if k = 1 then p.2 else 0) ≤ 1099511627776
 split <;> omega
def Few (q : Nat) (b : Int) (l : List Ml) : Prop := l.length ≤ 8 ∧ ∀ m ∈ l, OkM q b m
theorem Few.nil : Few q b [] := ⟨by simp, fun _ h => by cases h⟩
theorem Few.one {x : Ml} (h : OkM q b x) : Few q b [x] := ⟨by simp, fun m hm => by rw [List.mem_singleton.1 hm]; exact h⟩
theorem ask_ok (h : OkS q b s) (hm : OkM q b m) : OkS q b (askS s m) ∧ Few q b (askL s m) := by
 refine ⟨?_, ?_⟩
 ·unfold askS
  split
  ·exact h
  rename_i ho
  have hn : mget s.prom m.2.2.2.1 = none := by
   cases hg : mget s.prom m.2.2.2.1 with
   | none => rfl
   | some x => exfalso; apply ho; unfold outS; simp [hg]
  split
  ·rename_i hp
   unfold posS at hp
   simp only [Bool.and_eq_true, decide_eq_true_eq] at hp
   have e : mput s.prom m.2.2.2.1 (m.1, m.2.2.2.2) = s.prom ++ [(m.2.2.2.1, (m.1, m.2.2.2.2))] := mput_new _ hn
   refine ⟨h.num, ?_, ?_, mput_apart h.promA, fun e he => ?_, h.opnA, h.opn, h.grtA, h.grt, h.apart⟩
   ·show 0 ≤ s.stock + sumP (-1) (mput s.prom m.2.2.2.1 (m.1, m.2.2.2.2))
    rw [e, sumP_app]
    have h1 := h.lo
    simp only [sumP, addP]
    by_cases hc : m.2.2.2.2 < 0
    ·rw [if_pos (by simp [hc])]
     rw [sumP_sign (c := m.2.2.2.2) (c' := -1) (by simp [hc])] at hp
     omega
    ·rw [if_neg (by simp [hc])]; omega
   ·show s.stock + sumP 0 (mput s.prom m.2.2.2.1 (m.1, m.2.2.2.2)) ≤ 1099511627776
    rw [e, sumP_app]
    have h1 := h.hi
    simp only [sumP, addP]
    by_cases hc : m.2.2.2.2 < 0
    ·rw [if_neg (by simp [hc])]; omega
    ·rw [if_pos (by simp [hc])]
     rw [sumP_sign (c := m.2.2.2.2) (c' := 0) (by simp [hc])] at hp
     omega
   ·rcases mem_mput he with rfl | ⟨he, -⟩
    ·exact ⟨hm.tx, hm.fr, hm.n⟩
    ·exact h.prom e he
  ·exact ⟨h.num, h.lo, h.hi, h.promA, h.prom, h.opnA, h.opn, h.grtA, h.grt, h.apart⟩
 ·unfold askL
  repeat' split
  all_goals first
   | exact Few.nil
   | exact Few.one (rep_ok h hm (by omega))
theorem deal_mem {l : List (Int × Dl)} {tx : Int} {d : Dl} (h : ∀ e ∈ l, (1 ≤ e.1 ∧ e.1 ≤ b) ∧ OkD q e.2) (hg : mget l tx = some d) : OkD q d := (h _ (mget_some hg)).2
theorem miss_ok {d : Dl} (h : OkD q d) (x : List (Int × Bool)) : OkD q { d with miss := x } := ⟨h.lo, h.hi, h.part⟩
theorem agr_ok (h : OkS q b s) (hm : OkM q b m) : OkS q b (agrS s m.1 m.2.2.2.1) ∧ Few q b (agrL s m) := by
 unfold agrS agrL
 cases hg : mget s.opn m.2.2.2.1 with
 | some d =>
   have hd := deal_mem h.opn hg
   have hgn := h.apart _ (mget_some hg)
   dsimp only at hgn ⊢
   split
   ·refine ⟨⟨h.num, h.lo, h.hi, h.promA, h.prom, mdel_apart h.opnA, fun e he => h.opn e (mdel_sub e he), mput_apart h.grtA, fun e he => ?_, fun e he => ?_⟩, ?_, ?_⟩
    ·rcases mem_mput he with rfl | ⟨he, -⟩
     ·exact ⟨hm.tx, hd.lo, hd.hi, hd.part⟩
     ·exact h.grt e he
    ·show mget (mput s.grt m.2.2.2.1 (dl0 d.parts)) e.1 = none
     rw [mget_put, if_neg (mdel_ne e he)]
     exact h.apart e (mdel_sub e he)
    ·unfold wrL; rw [List.length_map]; exact hd.hi
    ·exact wr_ok h (by omega) hm.tx hd.part
   ·refine ⟨⟨h.num, h.lo, h.hi, h.promA, h.prom, mput_apart h.opnA, fun e he => ?_, h.grtA, h.grt, fun e he => ?_⟩, Few.nil⟩
    ·rcases mem_mput he with rfl | ⟨he, -⟩
     ·exact ⟨hm.tx, miss_ok hd _⟩
     ·exact h.opn e he
    ·rcases mem_mput he with rfl | ⟨he, -⟩
     ·exact hgn
     ·exact h.apart e he
 | none =>
   refine ⟨h, ?_⟩
   dsimp only
   cases hh : mget s.grt m.2.2.2.1 with
   | none => exact Few.one (rep_ok h hm (by omega))
   | some d =>
     dsimp only
     split
     ·exact Few.one (rep_ok h hm (by omega))
     ·exact Few.nil
theorem dis_ok (h : OkS q b s) (hm : OkM q b m) : OkS q b (disS s m.2.2.2.1) ∧ Few q b (disL s m.1 m.2.2.2.1) := by
 unfold disS disL
 cases hg : mget s.opn m.2.2.2.1 with
 | none => exact ⟨h, Few.nil⟩
 | some d =>
   have hd := deal_mem h.opn hg
   refine ⟨⟨h.num, h.lo, h.hi, h.promA, h.prom, mdel_apart h.opnA, fun e he => h.opn e (mdel_sub e he), h.grtA, h.grt, fun e he => h.apart e (mdel_sub e he)⟩, ?_, ?_⟩
   ·unfold wrL otherL; rw [List.length_map]; exact Nat.le_trans (List.length_filter_le _ _) hd.hi
   ·exact wr_ok h (by omega) hm.tx (fun p hp => hd.part p (List.mem_filter.1 hp).1)
theorem prom_split (h : s.prom.Pairwise (fun p q => p.1 ≠ q.1)) {tx t c : Int} (hg : mget s.prom tx = some (t, c)) (k : Int) : sumP k (mdel s.prom tx) = sumP k s.prom - addP k (tx, (t, c)) := by
 obtain ⟨l1, l2, e, ed⟩ := mget_split h hg
 rw [ed, e, sumP_app, sumP_app]
 simp only [sumP]
 omega
theorem keep_ok (h : OkS q b s) (hm : OkM q b m) : OkS q b (keepS s m.2.2.2.1) ∧ Few q b (keepL s m) := by
 refine ⟨?_, ?_⟩
 ·unfold keepS
  cases hg : mget s.prom m.2.2.2.1 with
  | none => simpa using h
  | some x =>
    obtain ⟨t, c⟩ := x
    rw [if_pos (show (some (t, c)).isSome = true from rfl)]
    simp only [Option.getD_some]
    refine ⟨h.num, ?_, ?_, mdel_apart h.promA, fun e he => h.prom e (mdel_sub e he), h.opnA, h.opn, h.grtA, h.grt, h.apart⟩
    ·show 0 ≤ s.stock + c + sumP (-1) (mdel s.prom m.2.2.2.1)
     rw [prom_split h.promA hg]
     have h1 := h.lo
     simp only [addP]
     by_cases hc : c < 0
     ·rw [if_pos (by simp [hc])]; omega
     ·rw [if_neg (by simp [hc])]; omega
    ·show s.stock + c + sumP 0 (mdel s.prom m.2.2.2.1) ≤ 1099511627776
     rw [prom_split h.promA hg]
     have h1 := h.hi
     simp only [addP]
     by_cases hc : c < 0
     ·rw [if_neg (by simp [hc])]; omega
     ·rw [if_pos (by simp [hc])]; omega
 ·unfold keepL
  split
  ·exact Few.one (rep_ok h hm (by omega))
  ·exact Few.nil
theorem abo_ok (h : OkS q b s) : OkS q b (aboS s m.2.2.2.1) := by
 unfold aboS
 cases hg : mget s.prom m.2.2.2.1 with
 | none => simpa using h
 | some x =>
   obtain ⟨t, c⟩ := x
   rw [if_pos (show (some (t, c)).isSome = true from rfl)]
   refine ⟨h.num, ?_, ?_, mdel_apart h.promA, fun e he => h.prom e (mdel_sub e he), h.opnA, h.opn, h.grtA, h.grt, h.apart⟩
   ·show 0 ≤ s.stock + sumP (-1) (mdel s.prom m.2.2.2.1)
    rw [prom_split h.promA hg]
    have h1 := h.lo
    simp only [addP]
    by_cases hc : c < 0
    ·rw [if_pos (by simp [hc])]; omega
    ·rw [if_neg (by simp [hc])]; omega
   ·show s.stock + sumP 0 (mdel s.prom m.2.2.2.1) ≤ 1099511627776
    rw [prom_split h.promA hg]
    have h1 := h.hi
    simp only [addP]
    by_cases hc : c < 0
    ·rw [if_neg (by simp [hc])]; omega
    ·rw [if_pos (by simp [hc])]; omega
theorem fin_ok (h : OkS q b s) (hm : OkM q b m) : OkS q b (finS s m.1 m.2.2.2.1) := by
 unfold finS
 cases hg : mget s.grt m.2.2.2.1 with
 | none => exact h
 | some d =>
   have hd := deal_mem h.grt hg
   dsimp only
   split
   ·refine ⟨h.num, h.lo, h.hi, h.promA, h.prom, h.opnA, h.opn, mdel_apart h.grtA, fun e he => h.grt e (mdel_sub e he), fun e he => ?_⟩
    show mget (mdel s.grt m.2.2.2.1) e.1 = none
    rw [mget_del]
    split
    ·rfl
    ·exact h.apart e he
   ·refine ⟨h.num, h.lo, h.hi, h.promA, h.prom, h.opnA, h.opn, mput_apart h.grtA, fun e he => ?_, fun e he => ?_⟩
    ·rcases mem_mput he with rfl | ⟨he, -⟩
     ·exact ⟨hm.tx, miss_ok hd _⟩
     ·exact h.grt e he
    ·show mget (mput s.grt m.2.2.2.1 _) e.1 = none
     have h1 := h.apart e he
     rw [mget_put, if_neg (fun e2 => by rw [e2, hg] at h1; cases h1)]
     exact h1
theorem han_ok (h : OkS q b s) (hm : OkM q b m) : OkS q b (han s m).1 ∧ Few q b (han s m).2 := by
 unfold han
 repeat' split
 ·exact ask_ok h hm
 ·exact agr_ok h hm
 ·exact dis_ok h hm
 ·exact keep_ok h hm
 ·exact ⟨abo_ok h, Few.nil⟩
 ·exact ⟨fin_ok h hm, Few.nil⟩
 ·refine ⟨h, ?_⟩
  unfold telL
  repeat' split
  all_goals first
   | exact Few.nil
   | exact Few.one (rep_ok h hm (by omega))
theorem han_num (s : Sx) (m : Ml) : (han s m).1.num = s.num := by
 unfold han askS agrS disS keepS aboS finS
 repeat' split
 all_goals rfl
theorem han_up (s : Sx) (m : Ml) : (han s m).1.up = s.up := by
 unfold han askS agrS disS keepS aboS finS
 repeat' split
 all_goals rfl
end

theorem take_room {α : Type} (a l : List α) (h : a.length ≤ 1024) : (a ++ l.take (1024 - a.length)).length ≤ 1024 := by
 rw [List.length_append, List.length_take]; omega
theorem OkN.turn {N : Nx} (h : OkN N) {k : Nat} {s : Sx} (hk : N.sites[k]? = some s) {s' : Sx} {l : List Ml} (hs : OkS N.sites.length N.begun s') (hn : s'.num = s.num) (hl : ∀ m ∈ l, OkM N.sites.length N.begun m) :
 OkN { N with sites := N.sites.set k s', mail := N.mail ++ l.take (1024 - N.mail.length) } := by
 refine ⟨by simpa using h.lo, by simpa using h.hi, h.beg, fun j t ht => ?_, take_room _ _ h.room, fun m hm => ?_⟩
 ·dsimp only at ht ⊢
  rw [List.length_set]
  rw [List.getElem?_set] at ht
  split at ht
  ·rename_i e
   subst e
   split at ht
   ·injection ht with ht
    subst ht
    exact ⟨hs, hn.trans (h.site _ _ hk).2⟩
   ·cases ht
  ·exact h.site j t ht
 ·dsimp only at hm ⊢
  rw [List.length_set]
  rcases List.mem_append.1 hm with hm | hm
  ·exact h.mail m hm
  ·exact hl m (List.mem_of_mem_take hm)
theorem handN_ok {N : Nx} (h : OkN N) {m : Ml} (hm : OkM N.sites.length N.begun m) : OkN (handN N m) := by
 unfold handN
 split
 ·exact h
 rename_i s hs
 split
 ·have h1 := han_ok (h.site _ _ hs).1 hm
  exact h.turn hs h1.1 (han_num s m) h1.2.2
 ·exact h
theorem OkN.less {N : Nx} (h : OkN N) (k : Nat) : OkN { N with mail := N.mail.eraseIdx k } :=
 ⟨h.lo, h.hi, h.beg, h.site, Nat.le_trans (by simpa using List.length_eraseIdx_le (l := N.mail) k) h.room, fun m hm => h.mail m (List.mem_of_mem_eraseIdx hm)⟩
theorem delN_ok {N : Nx} (h : OkN N) (k : Nat) : OkN (delN N k) := by
 unfold delN
 split
 ·exact h
 rename_i m hm
 exact handN_ok (h.less k) (h.mail m (List.mem_of_getElem? hm))
theorem OkM.more {q : Nat} {b b' : Int} (hb : b ≤ b') {m : Ml} (h : OkM q b m) : OkM q b' m := ⟨h.fr, h.dst, h.kind, ⟨h.tx.1, by have := h.tx.2; omega⟩, h.n⟩
theorem OkS.more {q : Nat} {b b' : Int} (hb : b ≤ b') {s : Sx} (h : OkS q b s) : OkS q b' s :=
 ⟨h.num, h.lo, h.hi, h.promA, fun e he => ⟨⟨(h.prom e he).1.1, by have := (h.prom e he).1.2; omega⟩, (h.prom e he).2⟩, h.opnA, fun e he => ⟨⟨(h.opn e he).1.1, by have := (h.opn e he).1.2; omega⟩, (h.opn e he).2⟩, h.grtA, fun e he => ⟨⟨(h.grt e he).1.1, by have := (h.grt e he).1.2; omega⟩, (h.grt e he).2⟩, h.apart⟩
theorem okFrom_parts {N : Nx} : ∀ (ps : List Mv) (seen : List Int) (sm : Int), okFrom N seen sm ps = true → (ps.map (·.1)).Nodup ∧ (∀ p ∈ ps, p.1 ∉ seen) ∧ (∀ p ∈ ps, 0 ≤ p.1 ∧ p.1 < (N.sites.length : Int) ∧ p.2 ≠ 0 ∧ -1099511627776 ≤ p.2 ∧ p.2 ≤ 1099511627776) ∧ sm + (ps.map (·.2)).sum = 0
 | [], seen, sm, h => by
   have : sm = 0 := by simpa [okFrom] using h
   simp [this]
 | p :: r, seen, sm, h => by
   unfold okFrom at h
   split at h
   ·cases h
   rename_i h1
   split at h
   ·cases h
   rename_i h2
   simp only [Bool.or_eq_true, decide_eq_true_eq, not_or] at h1
   obtain ⟨ih1, ih2, ih3, ih4⟩ := okFrom_parts r (p.1 :: seen) (sm + p.2) h
   have hr : refS N p.1 = 0 := by
    have := h1.1
    exact Classical.not_not.1 this
   have hb : badC p.2 = false := by simpa using h2
   unfold badC at hb
   simp only [Bool.or_eq_false_iff, decide_eq_false_iff_not] at hb
   have hrr : 0 ≤ p.1 ∧ p.1 < (N.sites.length : Int) := by
    unfold refS at hr
    split at hr
    ·cases hr
    ·split at hr
     ·cases hr
     ·omega
   refine ⟨?_, ?_, ?_, ?_⟩
   ·rw [List.map_cons, List.nodup_cons]
    refine ⟨fun hm => ?_, ih1⟩
    obtain ⟨y, hy, e⟩ := List.mem_map.1 hm
    exact ih2 y hy (by rw [e]; exact List.mem_cons_self)
   ·intro y hy
    rcases List.mem_cons.1 hy with rfl | hy
    ·exact h1.2
    ·exact fun hs => ih2 y hy (List.mem_cons_of_mem _ hs)
   ·intro y hy
    rcases List.mem_cons.1 hy with rfl | hy
    ·exact ⟨hrr.1, hrr.2, by omega, by omega, by omega⟩
    ·exact ih3 y hy
   ·rw [List.map_cons, List.sum_cons]; omega
structure OkP (q : Nat) (ps : List Mv) : Prop where
 lo : 1 ≤ ps.length
 nod : (ps.map (·.1)).Nodup
 part : ∀ p ∈ ps, 0 ≤ p.1 ∧ p.1 < (q : Int) ∧ p.2 ≠ 0 ∧ -1099511627776 ≤ p.2 ∧ p.2 ≤ 1099511627776
 sum : (ps.map (·.2)).sum = 0
theorem okTx_parts {N : Nx} {ps : List Mv} (h : okTx N ps = true) : OkP N.sites.length ps := by
 unfold okTx at h
 simp only [Bool.and_eq_true] at h
 obtain ⟨h1, h2, h3, h4⟩ := okFrom_parts ps [] 0 h.2
 refine ⟨?_, h1, h3, by omega⟩
 cases ps with
 | nil => simp at h
 | cons x r => simp
theorem OkP.few {q : Nat} {ps : List Mv} (h : OkP q ps) : ps.length ≤ q := by
 have h1 : (ps.map (fun p => p.1.toNat)).Nodup := by
  have h2 := h.nod
  rw [List.nodup_iff_pairwise_ne, List.pairwise_map] at h2 ⊢
  refine h2.imp_of_mem ?_
  intro p r hp hr hne e
  have := h.part p hp
  have := h.part r hr
  omega
 have h2 := List.Nodup.length_le_of_subset h1 (l₂ := List.range q) (fun x hx => by
  obtain ⟨e, he, rfl⟩ := List.mem_map.1 hx
  have := h.part e he
  rw [List.mem_range]; omega)
 simpa using h2
theorem begN_ok {N : Nx} (h : OkN N) {k : Nat} {s : Sx} (hk : N.sites[k]? = some s) {ps : List Mv} (hp : okTx N ps = true) (hb : N.begun < 256) : OkN (begN N k ps) := by
 have hP := okTx_parts hp
 have hfew := hP.few
 have h8 := h.hi
 have hs := (h.site k s hk).1
 have hbeg := h.beg
 unfold begN
 rw [hk]
 dsimp only
 have hD : OkD N.sites.length (dl0 ps) := ⟨hP.lo, by show ps.length ≤ 8; omega, fun p hp => by have := hP.part p hp; omega⟩
 have hs' : OkS N.sites.length (N.begun + 1) { s with opn := s.opn ++ [(N.begun + 1, dl0 ps)] } := by
  have h1 := hs.more (b' := N.begun + 1) (by omega)
  refine ⟨h1.num, h1.lo, h1.hi, h1.promA, h1.prom, ?_, fun e he => ?_, h1.grtA, h1.grt, fun e he => ?_⟩
  ·refine List.pairwise_append.2 ⟨hs.opnA, List.pairwise_singleton _ _, fun p hp q hq => ?_⟩
   rw [List.mem_singleton.1 hq]
   have := (hs.opn p hp).1
   dsimp only; omega
  ·rcases List.mem_append.1 he with he | he
   ·exact h1.opn e he
   ·rw [List.mem_singleton.1 he]; exact ⟨by dsimp only; omega, hD⟩
  ·rcases List.mem_append.1 he with he | he
   ·exact hs.apart e he
   ·rw [List.mem_singleton.1 he]
    refine mget_none.2 (fun p hp => ?_)
    have := (hs.grt p hp).1
    dsimp only; omega
 refine ⟨by simpa using h.lo, by simpa using h.hi, by dsimp only; omega, fun j t ht => ?_, take_room _ _ h.room, fun m hm => ?_⟩
 ·dsimp only at ht ⊢
  rw [List.length_set]
  rw [List.getElem?_set] at ht
  split at ht
  ·rename_i e
   subst e
   split at ht
   ·injection ht with ht
    subst ht
    exact ⟨hs', (h.site _ _ hk).2⟩
   ·cases ht
  ·have := h.site j t ht
   exact ⟨this.1.more (by omega), this.2⟩
 ·dsimp only at hm ⊢
  rw [List.length_set]
  rcases List.mem_append.1 hm with hm | hm
  ·exact (h.mail m hm).more (by omega)
  ·refine wr_ok (hs.more (b' := N.begun + 1) (by omega)) (by omega) (by omega) hD.part m (List.mem_of_mem_take hm)

end Go.Proofs.YtnoeiocbmhkmeaaGreat
