/- Layer 5: transactions begin one after another, and all letters are delivered in any order, some twice. -/
import Derived.Test.YtobcdkjomehdkaaGreatBu22
namespace Go.Proofs.YtobcdkjomehdkaaGreat
set_option linter.unusedSimpArgs false
set_option maxRecDepth 100000
set_option maxHeartbeats 80000000

theorem handN_live {N : Nx} {co : Int → Int} {pa : Int → List Mv} {G : Int → Prop} (h : Inv N co pa G) (ho : OkN N) (v : Liv N co (fun _ => True)) {m : Ml} (hmm : m ∈ N.mail) (ml : List Ml) (hml : ∀ x ∈ N.mail, x ≠ m → x ∈ ml) (hup : Ups N) (hroom : ml.length + 8 ≤ 1024) : Liv (handN { N with mail := ml } m) co (fun _ => True) := by
 intro t ht1 ht2
 have hok := ho.mail m hmm
 unfold handN at ht2 ⊢
 dsimp only at ht2 ⊢
 have hkn : m.2.1.toNat < N.sites.length := by have := hok.dst; omega
 have hs : N.sites[m.2.1.toNat]? = some (N.sites[m.2.1.toNat]'hkn) := List.getElem?_eq_getElem _
 generalize N.sites[m.2.1.toNat]'hkn = s at hs
 rw [hs] at ht2 ⊢
 dsimp only at ht2 ⊢
 rw [if_pos (hup s (List.mem_of_getElem? hs))] at ht2 ⊢
 dsimp only at ht2
 have hfew := (han_ok (ho.site _ _ hs).1 hok).2.1
 have hall : (han s m).2.take (1024 - ml.length) = (han s m).2 := List.take_of_length_le (by omega)
 rw [hall]
 have hst := han_step s m hok.kind
 have hkk : ((m.2.1.toNat : Nat) : Int) = m.2.1 := by have := hok.dst; omega
 have hat := atN_of (N := N) hs
 rw [hkk] at hat
 rw [(ho.site _ _ hs).2, hkk, ← hat] at hst
 have hset := atN_set (N := N) hs (han s m).1 (ml ++ (han s m).2) N.begun t
 have e1 : ({ N with sites := N.sites.set m.2.1.toNat (han s m).1, mail := ml ++ (han s m).2, begun := N.begun } : Nx) = { N with sites := N.sites.set m.2.1.toNat (han s m).1, mail := ml ++ (han s m).2 } := rfl
 rw [e1, hkk] at hset
 rw [hset]
 by_cases e : t = m.2.2.2.1
 ·subst e
  exact hst.live (h.tx _ ht1 ht2) rfl (h.letOk ho hmm) (v _ ht1 ht2) (fun x hx hne => ⟨List.mem_append_left _ (hml x hx.1 hne), hx.2⟩) (fun x hx => ⟨List.mem_append_right _ hx, hst.tx x hx⟩)
 ·rw [upd_id (by rw [han_other s m e, hat])]
  have v1 := v t ht1 ht2
  have hO : ∀ x, lets N t x → lets { N with sites := N.sites.set m.2.1.toNat (han s m).1, mail := ml ++ (han s m).2 } t x := fun x hx => ⟨List.mem_append_left _ (hml x hx.1 (fun e2 => e (by rw [← hx.2, e2]))), hx.2⟩
  have fr : ∀ {kd f}, Fr (lets N t) kd f → Fr (lets { N with sites := N.sites.set m.2.1.toNat (han s m).1, mail := ml ++ (han s m).2 } t) kd f := fun ⟨x, h1, h2⟩ => ⟨x, hO x h1, h2⟩
  have tt : ∀ {kd f}, To (lets N t) kd f → To (lets { N with sites := N.sites.set m.2.1.toNat (han s m).1, mail := ml ++ (han s m).2 } t) kd f := fun ⟨x, h1, h2⟩ => ⟨x, hO x h1, h2⟩
  exact ⟨fun d hd hK f hf => (v1.op d hd hK f hf).imp tt (fun h1 => h1.imp fr fr), fun d hd hK f hf => (v1.gt d hd hK f hf).imp tt fr, fun f hf hK => (v1.pr f hf hK).imp id (fun h1 => h1.imp fr (fun h1 => h1.imp fr (fun h1 => h1.imp tt tt)))⟩
structure SlN (N : Nx) (own : List Int) (all : List (List Mv)) (F : Prop) : Prop where
 ok : OkN N
 len : N.begun = (all.length : Int)
 inv : ∃ co G, Inv N co (paA all) G ∧ Liv N co (fun _ => True) ∧ (F → ∀ t, 1 ≤ t → t ≤ N.begun → FitT (atN N t) (lets N t) (co t) (G t))
 stk : Stk N (paA all) own
 fx : F → Fx N (paA all)
 up : Ups N
section
variable {N : Nx} {own : List Int} {all : List (List Mv)} {F : Prop}
theorem SlN.cm (h : SlN N own all F) : Cm N own all (fun _ => True) := by
 obtain ⟨co, G, hi, v, -⟩ := h.inv
 exact ⟨h.ok, h.len, ⟨co, G, hi, v⟩, h.stk⟩
theorem SlN.hand (h : SlN N own all F) {m : Ml} (hmm : m ∈ N.mail) (ml : List Ml) (h1 : ∀ x ∈ ml, x ∈ N.mail) (h2 : ∀ x ∈ N.mail, x ≠ m → x ∈ ml) (hroom : ml.length + 8 ≤ 1024) : SlN (handN { N with mail := ml } m) own all F := by
 obtain ⟨co, G, hi, v, hf⟩ := h.inv
 have ho := h.ok
 have ho0 : OkN { N with mail := ml } := ⟨ho.lo, ho.hi, ho.beg, ho.site, by dsimp only; omega, fun m hm => ho.mail m (h1 m hm)⟩
 have hi0 : Inv { N with mail := ml } co (paA all) G := hi.mail ml (fun x hx => Or.inl (h1 x hx))
 have hok := ho.mail m hmm
 have hlet := hi.letOk ho hmm
 obtain ⟨G', hG, hi'⟩ := handN_inv hi0 ho0 hok hlet
 have htx := hok.tx
 have hI := hi.tx _ htx.1 htx.2
 have hkn : m.2.1.toNat < N.sites.length := by have := hok.dst; omega
 have hs : N.sites[m.2.1.toNat]? = some (N.sites[m.2.1.toNat]'hkn) := List.getElem?_eq_getElem _
 generalize N.sites[m.2.1.toNat]'hkn = s at hs
 have hsu := h.up s (List.mem_of_getElem? hs)
 have hkk : ((m.2.1.toNat : Nat) : Int) = m.2.1 := by have := hok.dst; omega
 have hat := atN_of (N := N) hs
 rw [hkk] at hat
 have e0 : handN { N with mail := ml } m = { N with sites := N.sites.set m.2.1.toNat (han s m).1, mail := ml ++ (han s m).2.take (1024 - ml.length) } := by
  unfold handN
  dsimp only
  rw [hs]
  dsimp only
  rw [if_pos hsu]
 have hset : ∀ t, atN (handN { N with mail := ml } m) t = upd (atN N t) m.2.1 (atS (han s m).1 t) := fun t => by
  rw [e0, ← hkk]; exact atN_set hs _ _ N.begun t
 have hst := han_step s m hok.kind
 rw [(ho.site _ _ hs).2, hkk, ← hat] at hst
 have hL : ∀ t x, lets (handN { N with mail := ml } m) t x → lets N t x ∨ x ∈ (han s m).2 := fun t x hx => by
  have hx1 := hx.1
  rw [e0] at hx1
  rcases List.mem_append.1 hx1 with h3 | h3
  ·exact Or.inl ⟨h1 x h3, hx.2⟩
  ·exact Or.inr (List.mem_of_mem_take h3)
 refine ⟨handN_ok ho0 hok, by rw [(hand_len _ _).2]; exact h.len, ⟨co, G', hi', handN_live hi ho v hmm ml h2 h.up hroom, fun hF t t1 t2 => ?_⟩, hand_stk (h.stk.mail _) hi0 hok, fun hF => hand_fx (N := { N with mail := ml }) (h.fx hF) hi0 ho0 hok hlet (fun hk5 => ?_), ups_hand (N := { N with mail := ml }) h.up m⟩
 ·rw [(hand_len _ _).2] at t2
  have t2 : t ≤ N.begun := t2
  have hi2 := hi'.tx t t1 (by rw [(hand_len _ _).2]; exact t2)
  by_cases e : t = m.2.2.2.1
  ·subst e
   rw [hset] at hi2 ⊢
   refine hst.fit hI rfl hlet ⟨hmm, rfl⟩ (hG _) hi2 (hL _) (fun hk1 hp hkp => ?_) (hf hF _ t1 t2)
   have hmem := (hlet.ask hk1).2
   have hP := (hi.ok _ htx.1 htx.2).2
   have hch : chg (paA all m.2.2.2.1) m.2.1 = m.2.2.2.2 := chg_of (q := N.sites.length) hP.nod hmem
   have h3 := (h.fx hF).pos ho hs htx.1 htx.2 (by
    rw [hkk]; unfold und; rw [hp, hkp]; rfl)
   rw [hkk, hch] at h3
   exact h3
  ·rw [hset, upd_id (by rw [han_other s m e, hat])]
   have f := hf hF t t1 t2
   refine ⟨f.dr, fun x hx => ?_, f.go.imp id (hG t)⟩
   rcases hL t x hx with h3 | h3
   ·exact ⟨(f.no x h3).1, fun e5 => hG t ((f.no x h3).2 e5)⟩
   ·exact absurd (hx.2.symm.trans (hst.tx x h3)) e
 ·have f := hf hF _ htx.1 htx.2
  have hg := (f.no m ⟨hmm, rfl⟩).2 hk5
  have h3 := (hlet.abo hk5).2.2.2 hg
  show (atN N m.2.2.2.1 m.2.1).pr = none
  cases hx : (atN N m.2.2.2.1 m.2.1).pr with
  | none => rfl
  | some y =>
    exfalso
    obtain ⟨t', x'⟩ := y
    have h4 := (hI.sit.prom m.2.1 t' x' hx).2
    have h5 := h3 m.2.1 ⟨x', h4⟩
    have h6 := ((hI.sit.one m.2.1).1 (by rw [hx]; simp)).1
    rw [h5] at h6
    cases h6
theorem SlN.rep (h : SlN N own all F) {m : Ml} (hmm : m ∈ N.mail) (hroom : N.mail.length + 8 ≤ 1024) : SlN (handN N m) own all F := h.hand hmm N.mail (fun _ hx => hx) (fun _ hx _ => hx) hroom
theorem SlN.del (h : SlN N own all F) {k : Nat} {m : Ml} (hm : N.mail[k]? = some m) (hroom : N.mail.length + 8 ≤ 1024) : SlN (delN N k) own all F := by
 have hmm := List.mem_of_getElem? hm
 have h1 := h.hand hmm (N.mail.eraseIdx k) (fun x hx => List.mem_of_mem_eraseIdx hx) (fun x hx hne => mem_erase hm hx hne) (by have := List.length_eraseIdx_le (l := N.mail) k; omega)
 unfold delN
 rw [hm]
 exact h1
theorem SlN.kept (h : SlN N own all F) (hF : F) (hm : N.mail = []) {t : Int} (h1 : 1 ≤ t) (h2 : t ≤ N.begun) {i : Int} (hi : isP (paA all t) i) : (atN N t i).kp = true := by
 obtain ⟨co, G, hI, v, hf⟩ := h.inv
 have hq := quiet (hI.tx t h1 h2) (v t h1 h2) (fun m hm2 => by have := hm2.1; rw [hm] at this; cases this)
 have hG : G t := by
  rcases (hf hF t h1 h2).go with h3 | h3
  ·exact absurd (hq (co t)).1 h3
  ·exact h3
 rcases (hI.tx t h1 h2).sit.pk hG i hi with h3 | h3
 ·exact absurd (hq i).2.2 h3
 ·exact h3
end
structure Sf (N : Nx) (own : List Int) (all : List (List Mv)) : Prop where
 cm : Cm N own all (fun _ => True)
 up : Ups N
 fresh : ∀ s ∈ N.sites, s.prom = [] ∧ s.kept = [] ∧ s.drop = []
 ask : ∀ m ∈ N.mail, m.2.2.1 = 1
 op : ∀ t, 1 ≤ t → t ≤ N.begun → ∃ i, (atN N t i).op ≠ none
 ml : N.mail.length ≤ 2 * all.length
 opn : opens N = all.length
theorem sf_new {l : List Int} (h : okStocks l = true) : Sf (newN l) l [] := by
 have hc := cm_new h
 have hsite : ∀ s ∈ (newN l).sites, ∃ k x, s = nw k x := fun s hs => by
  obtain ⟨k, hk⟩ := List.mem_iff_getElem?.1 hs
  have hkn := (List.getElem?_eq_some_iff.1 hk).1
  rw [newN_len] at hkn
  have h1 := newN_site (l := l) (k := k) (x := l[k]) (List.getElem?_eq_getElem hkn)
  rw [h1] at hk
  injection hk with hk
  exact ⟨k, _, hk.symm⟩
 obtain ⟨co, G, hi, -⟩ := hc.inv
 have hb : (newN l).begun = 0 := rfl
 refine ⟨⟨hc.ok, hc.len, ⟨co, G, hi, fun t h1 h2 => by omega⟩, hc.stk⟩, fun s hs => ?_, fun s hs => ?_, fun m hm => (by cases hm), fun t h1 h2 => by omega, by simp [newN], ?_⟩
 ·obtain ⟨k, x, rfl⟩ := hsite s hs; rfl
 ·obtain ⟨k, x, rfl⟩ := hsite s hs; exact ⟨rfl, rfl, rfl⟩
 ·unfold opens
  have : ∀ ss : List Sx, (∀ s ∈ ss, s.opn = []) → (ss.map (fun s => s.opn.length)).sum = 0 := fun ss => by
   induction ss with
   | nil => intro _; rfl
   | cons s r ih =>
     intro hh
     rw [List.map_cons, List.sum_cons, hh s List.mem_cons_self, ih (fun x hx => hh x (List.mem_cons_of_mem _ hx))]
     rfl
  exact this _ (fun s hs => by obtain ⟨k, x, rfl⟩ := hsite s hs; rfl)
theorem Sf.beg {N : Nx} {own : List Int} {all : List (List Mv)} (h : Sf N own all) {k : Nat} {s : Sx} (hk : N.sites[k]? = some s) {ps : List Mv} (hp : okTx N ps = true) (hp2 : ps.length ≤ 2) (hb : N.begun < 256) (hroom : N.mail.length + 8 ≤ 1024) : Sf (begN N k ps) own (all ++ [ps]) := by
 obtain ⟨co, G, hi, v⟩ := h.cm.inv
 have ho := h.cm.ok
 have hl := h.cm.len
 have hbg := ho.beg.1
 have e0 : begN N k ps = { N with sites := N.sites.set k { s with opn := s.opn ++ [(N.begun + 1, dl0 ps)] }, mail := N.mail ++ (wrL s 1 (N.begun + 1) ps).take (1024 - N.mail.length), begun := N.begun + 1 } := by unfold begN; rw [hk]
 have hbb : (begN N k ps).begun = N.begun + 1 := by rw [e0]
 have epa : ∀ t, 1 ≤ t → t ≤ N.begun + 1 → paA (all ++ [ps]) t = if t = N.begun + 1 then ps else paA all t := fun t h1 h2 => by
  rw [paA_snoc all ps h1 (by omega), ← hl]
 have hsites : ∀ u ∈ (begN N k ps).sites, u ∈ N.sites ∨ u = { s with opn := s.opn ++ [(N.begun + 1, dl0 ps)] } := fun u hu => by
  rw [e0] at hu
  exact List.mem_or_eq_of_mem_set hu
 have hsm := List.mem_of_getElem? hk
 have hat : ∀ t, atN (begN N k ps) t = upd (atN N t) (k : Int) (atS { s with opn := s.opn ++ [(N.begun + 1, dl0 ps)] } t) := fun t => by
  rw [e0]; exact atN_set hk _ _ _ t
 have hnew := (ho.site k s hk).1.new
 refine ⟨⟨begN_ok ho hk hp hb, by rw [hbb, hl, List.length_append]; rfl, ⟨_, _, (begN_inv hi ho hk hp).pa (fun t h1 h3 => epa t h1 (by rw [hbb] at h3; exact h3)), begN_live hi ho v hk hp hroom⟩, beg_stk h.cm.stk hi hbg hk ps (fun t h1 h3 => by rw [epa t h1 (by omega), if_neg (by omega)])⟩, fun u hu => ?_, fun u hu => ?_, fun m hm => ?_, fun t h1 h2 => ?_, ?_, ?_⟩
 ·rcases hsites u hu with h1 | rfl
  ·exact h.up u h1
  ·exact h.up s hsm
 ·rcases hsites u hu with h1 | rfl
  ·exact h.fresh u h1
  ·exact h.fresh s hsm
 ·rw [e0] at hm
  rcases List.mem_append.1 hm with h1 | h1
  ·exact h.ask m h1
  ·obtain ⟨p, -, rfl⟩ := wr5_mem (List.mem_of_mem_take h1)
   rfl
 ·rw [hbb] at h2
  by_cases e : t = N.begun + 1
  ·refine ⟨(k : Int), ?_⟩
   rw [hat, upd_same, e]
   unfold atS
   dsimp only
   rw [mget_snoc _ _ _ _ hnew, if_pos rfl]
   simp
  ·obtain ⟨i, hi2⟩ := h.op t h1 (by omega)
   refine ⟨i, ?_⟩
   rw [hat, upd_id]
   ·exact hi2
   ·rw [atN_of hk]
    unfold atS
    dsimp only
    rw [mget_snoc _ _ _ _ hnew, if_neg e]
 ·rw [e0]
  dsimp only
  have := h.ml
  rw [List.length_append, List.length_append, List.length_take]
  unfold wrL
  rw [List.length_map]
  simp only [List.length_cons, List.length_nil]
  omega
 ·rw [e0]
  have h1 := opens_set hk { s with opn := s.opn ++ [(N.begun + 1, dl0 ps)] }
  have h2 := h.opn
  unfold opens at h1 h2 ⊢
  dsimp only at h1 ⊢
  rw [List.length_append] at h1 ⊢
  simp only [List.length_cons, List.length_nil] at h1 ⊢
  omega
def sumF (f : Int → Int) (all : List (List Mv)) (i : Int) : Int := ((List.range all.length).map (fun (j : Nat) => f (chg (paA all ((j : Int) + 1)) i))).sum
theorem Sf.go {N : Nx} {own : List Int} {all : List (List Mv)} (h : Sf N own all) {F : Prop} (hF : F → ∀ k : Nat, k < own.length → 0 ≤ own.getD k 0 + sumF negP all (k : Int) ∧ own.getD k 0 + sumF posP all (k : Int) ≤ 1099511627776) : SlN N own all F := by
 obtain ⟨co, G, hi, v⟩ := h.cm.inv
 have hl := h.cm.len
 have hfr : ∀ t i, (atN N t i).pr = none ∧ (atN N t i).kp = false ∧ (atN N t i).dr = false := fun t i => by
  unfold atN
  split
  ·exact ⟨rfl, rfl, rfl⟩
  ·cases hs : N.sites[i.toNat]? with
   | none => exact ⟨rfl, rfl, rfl⟩
   | some s =>
     obtain ⟨a, b, c⟩ := h.fresh s (List.mem_of_getElem? hs)
     show mget s.prom t = none ∧ (mget s.kept t).getD false = false ∧ (mget s.drop t).getD false = false
     rw [a, b, c]
     exact ⟨rfl, rfl, rfl⟩
 refine ⟨h.cm.ok, hl, ⟨co, G, hi, v, fun _ t h1 h2 => ⟨fun k => (hfr t k).2.2, fun m hm => ?_, ?_⟩⟩, h.cm.stk, fun hf k s hk => ?_, h.up⟩
 ·have := h.ask m hm.1
  exact ⟨by omega, fun e => by omega⟩
 ·obtain ⟨i, hi2⟩ := h.op t h1 h2
  cases hx : (atN N t i).op with
  | none => exact absurd hx hi2
  | some d =>
    have := ((hi.tx t h1 h2).sit.op i d hx).1
    rw [this] at hi2
    exact Or.inl hi2
 ·have hkn := (List.getElem?_eq_some_iff.1 hk).1
  obtain ⟨f1, f2⟩ := hF hf k (by rw [h.cm.stk.1]; exact hkn)
  have h1 := h.cm.stk.2 k s hk
  have hkp : kpS N (paA all) N.begun.toNat (k : Int) = 0 := by
   unfold kpS
   have : (fun (j : Nat) => if (atN N ((j : Int) + 1) (k : Int)).kp then chg (paA all ((j : Int) + 1)) (k : Int) else 0) = fun _ => 0 := funext fun j => by rw [(hfr _ _).2.1]; rfl
   rw [this, sum_nought]
  have hr : ∀ f : Int → Int, reS f N (paA all) N.begun.toNat (k : Int) = sumF f all (k : Int) := fun f => by
   unfold reS sumF
   rw [show N.begun.toNat = all.length by omega]
   exact sum_same (fun j _ => by
    have : und (atN N ((j : Int) + 1) (k : Int)) = true := by unfold und; rw [(hfr _ _).1, (hfr _ _).2.1]; rfl
    rw [if_pos this])
  rw [(h.fresh s (List.mem_of_getElem? hk)).1, hr, hr, h1, hkp]
  simp only [sumP]
  omega
theorem Sf.few {N : Nx} {own : List Int} {all : List (List Mv)} (h : Sf N own all) : phA a2f 24 N ≤ 54 * all.length ∧ phA a3f 16 N ≤ 32 * all.length := by
 have key : ∀ (a : Int → Nat) (l : List Ml), (∀ m ∈ l, m.2.2.1 = 1) → wtA a l = l.length * a 1 := fun a l => by
  induction l with
  | nil => intro _; simp [wtA]
  | cons m r ih =>
    intro hh
    have e : wtA a (m :: r) = a m.2.2.1 + wtA a r := by simp [wtA]
    rw [e, ih (fun x hx => hh x (List.mem_cons_of_mem _ hx)), hh m List.mem_cons_self, List.length_cons, Nat.succ_mul]
    omega
 have h1 := h.ml
 have h2 := h.opn
 unfold phA
 rw [key _ _ h.ask, key _ _ h.ask, h2]
 have e2 : a2f 1 = 15 := rfl
 have e3 : a3f 1 = 8 := rfl
 rw [e2, e3]
 omega
theorem both_few {a r : Int → Nat} {W : Nat} (hw : WtOk a r W) {N : Nx} (ho : OkN N) {k : Nat} {m : Ml} (hm : N.mail[k]? = some m) : phA a W (handN N m) ≤ phA a W N + r m.2.2.1 ∧ (handN N m).mail[k]? = some m ∧ phA a W (delN (handN N m) k) + a m.2.2.1 ≤ phA a W N + 2 * r m.2.2.1 := by
 have hok := ho.mail m (List.mem_of_getElem? hm)
 have h1 := handN_phA hw ho hok
 have h2 : (handN N m).mail[k]? = some m := by
  unfold handN
  split
  ·exact hm
  rename_i s hs
  split
  ·dsimp only
   rw [List.getElem?_append_left (List.getElem?_eq_some_iff.1 hm).1]
   exact hm
  ·exact hm
 have h3 := delN_phA hw (handN_ok ho hok) h2
 exact ⟨h1, h2, by omega⟩
theorem kpS_all {N : Nx} {all : List (List Mv)} {i : Int} (h : ∀ t, 1 ≤ t → t ≤ (all.length : Int) → isP (paA all t) i → (atN N t i).kp = true) : kpS N (paA all) all.length i = sumF id all i := by
 unfold kpS sumF
 refine sum_same (fun j hj => ?_)
 split
 ·rfl
 ·rename_i hn
  rw [chg_none (fun hp => hn (h _ (by omega) (by omega) hp))]
  rfl

set_option maxRecDepth 100000
set_option maxHeartbeats 80000000

def mv2 (s x : Int) : List Mv := [(0, -x), (s, x)]
theorem chg_mv2 {s x : Int} (hs : s ≠ 0) : chg (mv2 s x) 0 = -x ∧ chg (mv2 s x) s = x ∧ ∀ i, i ≠ 0 → i ≠ s → chg (mv2 s x) i = 0 := by
 have h0 : ∀ i, chg [] i = 0 := fun _ => rfl
 refine ⟨?_, ?_, fun i h1 h2 => ?_⟩
 ·unfold mv2; rw [chg_cons, chg_cons, h0, if_pos rfl, if_neg hs]; omega
 ·unfold mv2; rw [chg_cons, chg_cons, h0, if_neg (fun e => hs e.symm), if_pos rfl]; omega
 ·unfold mv2; rw [chg_cons, chg_cons, h0, if_neg (fun e => h1 e.symm), if_neg (fun e => h2 e.symm)]; rfl
theorem sumF_all (f : Int → Int) (all : List (List Mv)) (i : Int) : sumF f all i = (all.map (fun ps => f (chg ps i))).sum := by
 unfold sumF
 congr 1
 refine List.ext_getElem? (fun j => ?_)
 by_cases hj : j < all.length
 ·rw [List.getElem?_map, List.getElem?_map, List.getElem?_range hj, List.getElem?_eq_getElem hj, Option.map_some, Option.map_some]
  unfold paA
  rw [show ((j : Int) + 1).toNat - 1 = j by omega, List.getD_eq_getElem?_getD, List.getElem?_eq_getElem hj]
  rfl
 ·rw [List.getElem?_eq_none (by simp; omega), List.getElem?_eq_none (by simp; omega)]
theorem okTx_mv2 {N : Nx} {s x : Int} (h1 : 1 ≤ s) (h2 : s < (N.sites.length : Int)) (hx : 1 ≤ x) (hx2 : x ≤ 1099511627776) : okTx N (mv2 s x) = true := by
 have r0 : refS N 0 = 0 := by unfold refS; rw [if_neg (by omega), if_neg (by omega)]
 have r1 : refS N s = 0 := by unfold refS; rw [if_neg (by omega), if_neg (by omega)]
 have b0 : badC (-x) = false := by unfold badC; simp; omega
 have b1 : badC x = false := by unfold badC; simp; omega
 have hs0 : ¬ s = 0 := by omega
 unfold okTx mv2 okFrom
 rw [r0, b0]
 unfold okFrom
 rw [r1, b1]
 unfold okFrom
 simp [hs0]
 omega
theorem beg_two {N : Nx} {own : List Int} {all : List (List Mv)} (h : Sf (nzN N) own all) (ha : all.length ≤ 30) {q : Nat} (hq : q < N.sites.length) {s x : Int} (h1 : 1 ≤ s) (h2 : s < (N.sites.length : Int)) (hx : 1 ≤ x) (hx2 : x ≤ 1099511627776) :
 begE N (q : Int) (mv2 s x) = 0 ∧ begT N (q : Int) (mv2 s x) = (all.length : Int) + 1 ∧ ∀ N1, nzN N1 = begI (nzN N) (q : Int) (mv2 s x) → Sf (nzN N1) own (all ++ [mv2 s x]) := by
 have hq' : q < (nzN N).sites.length := by rw [nz_len]; exact hq
 have hs : (nzN N).sites[q]? = some ((nzN N).sites[q]'hq') := List.getElem?_eq_getElem _
 generalize (nzN N).sites[q]'hq' = z at hs
 have hzu := h.up z (List.mem_of_getElem? hs)
 have hlen := h.cm.len
 have hml := h.ml
 have hb : (nzN N).begun = N.begun := rfl
 have hrd : refD (nzN N) (q : Int) = 0 := by
  have hr : refS (nzN N) (q : Int) = 0 := by unfold refS; rw [if_neg (by omega), if_neg (by omega)]
  unfold refD
  rw [hr, if_neg (by simp), show ((q : Int)).toNat = q from rfl, hs]
  simp [hzu]
 have hok : okTx (nzN N) (mv2 s x) = true := okTx_mv2 h1 (by rw [nz_len]; exact h2) hx hx2
 have hE : begE (nzN N) (q : Int) (mv2 s x) = 0 := by
  unfold begE
  rw [hrd, if_neg (by simp), hok, if_neg (by simp), if_neg (by omega)]
 have hE0 := hE
 rw [begE_nz] at hE0
 refine ⟨hE0, by unfold begT; rw [if_pos hE0]; omega, fun N1 hN1 => ?_⟩
 rw [hN1]
 unfold begI
 rw [if_pos hE]
 exact h.beg hs hok (by simp [mv2]) (by omega) (by omega)
structure Fl (M : Nx) (own : List Int) (all : List (List Mv)) (F : Prop) (d : Nat) : Prop where
 sl : SlN (nzN M) own all F
 ph2 : d + phA a2f 24 (nzN M) ≤ 3999
 ph3 : phA a3f 16 (nzN M) ≤ 1000
theorem Fl.room {M : Nx} {own : List Int} {all : List (List Mv)} {F : Prop} {d : Nat} (h : Fl M own all F d) : M.mail.length ≤ 1000 := by
 have h1 := phA_mail ok3 (nzN M)
 have h2 := h.ph3
 have : (nzN M).mail.length = M.mail.length := rfl
 omega
theorem refL_in {M : Nx} (h1 : 1 ≤ M.sites.length) {k : Nat} (hk : k < M.mail.length) : refL M (k : Int) = 0 := by
 unfold refL
 rw [if_neg (by omega), if_neg (by omega)]
theorem Fl.one {M M' : Nx} {own : List Int} {all : List (List Mv)} {F : Prop} {d : Nat} (h : Fl M own all F d) {k : Nat} (hk : k < M.mail.length) (hM : nzN M' = delI (nzN M) (k : Int)) : refL M (k : Int) = 0 ∧ Fl M' own all F (d + 1) := by
 have hlo := h.sl.ok.lo
 rw [nz_len] at hlo
 have h0 := refL_in (M := M) hlo hk
 have hk' : k < (nzN M).mail.length := hk
 have hm : (nzN M).mail[k]? = some ((nzN M).mail[k]'hk') := List.getElem?_eq_getElem _
 generalize (nzN M).mail[k]'hk' = m at hm
 have hr := h.room
 have e : nzN M' = delN (nzN M) k := by rw [hM]; unfold delI; rw [refL_nz, if_pos h0]; rfl
 have g2 := delN_phA ok2 h.sl.ok hm
 have g3 := delN_phA ok3 h.sl.ok hm
 have t2 := twi2 m.2.2.1
 have t3 := twi3 m.2.2.1
 have p2 := h.ph2
 have p3 := h.ph3
 rw [← e] at g2 g3
 exact ⟨h0, by rw [e]; exact h.sl.del hm (by show M.mail.length + 8 ≤ 1024; omega), by omega, by omega⟩
theorem Fl.two {M M1 : Nx} {own : List Int} {all : List (List Mv)} {F : Prop} {d : Nat} (h : Fl M own all F d) {k : Nat} (hk : k < M.mail.length) (hM : nzN M1 = repI (nzN M) (k : Int)) : refL M (k : Int) = 0 ∧ OkN (nzN M1) ∧ refL M1 (k : Int) = 0 ∧ ∀ M', nzN M' = delI (nzN M1) (k : Int) → Fl M' own all F (d + 1) := by
 have hlo := h.sl.ok.lo
 rw [nz_len] at hlo
 have h0 := refL_in (M := M) hlo hk
 have hk' : k < (nzN M).mail.length := hk
 have hm : (nzN M).mail[k]? = some ((nzN M).mail[k]'hk') := List.getElem?_eq_getElem _
 generalize (nzN M).mail[k]'hk' = m at hm
 have hr := h.room
 have e : nzN M1 = handN (nzN M) m := by rw [hM]; unfold repI; rw [refL_nz, if_pos h0, show ((k : Int)).toNat = k from rfl, hm]
 obtain ⟨g2, gm, g2'⟩ := both_few ok2 h.sl.ok hm
 obtain ⟨g3, -, g3'⟩ := both_few ok3 h.sl.ok hm
 have t2 := twi2 m.2.2.1
 have t3 := twi3 m.2.2.1
 have p2 := h.ph2
 have p3 := h.ph3
 have s1 : SlN (nzN M1) own all F := by rw [e]; exact h.sl.rep (List.mem_of_getElem? hm) (by show M.mail.length + 8 ≤ 1024; omega)
 rw [← e] at g2 gm g2' g3 g3'
 have hl1 : (nzN M1).mail.length ≤ 1004 := by
  have := phA_mail ok3 (nzN M1)
  omega
 have hk1 : k < M1.mail.length := (List.getElem?_eq_some_iff.1 gm).1
 have hlo1 := s1.ok.lo
 rw [nz_len] at hlo1
 have h01 := refL_in (M := M1) hlo1 hk1
 refine ⟨h0, s1.ok, h01, fun M' hM' => ?_⟩
 have e' : nzN M' = delN (nzN M1) k := by rw [hM']; unfold delI; rw [refL_nz, if_pos h01]; rfl
 rw [← e'] at g2' g3'
 exact ⟨by rw [e']; exact s1.del gm (by omega), by omega, by omega⟩
theorem Sf.fl {N : Nx} {own : List Int} {all : List (List Mv)} (h : Sf (nzN N) own all) (ha : all.length ≤ 30) {F : Prop} (hF : F → ∀ k : Nat, k < own.length → 0 ≤ own.getD k 0 + sumF negP all (k : Int) ∧ own.getD k 0 + sumF posP all (k : Int) ≤ 1099511627776) : Fl N own all F 0 := by
 have := h.few
 exact ⟨h.go hF, by omega, by omega⟩

end Go.Proofs.YtobcdkjomehdkaaGreat
