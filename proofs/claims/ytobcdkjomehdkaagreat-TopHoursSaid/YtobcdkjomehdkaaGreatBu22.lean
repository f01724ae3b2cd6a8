/- Layer 5: letters delivered in any order, some twice: how many may come; and if all changes fit, nothing is dropped. -/
import Derived.Test.YtobcdkjomehdkaaGreatBu21
namespace Go.Proofs.YtobcdkjomehdkaaGreat
set_option linter.unusedSimpArgs false
set_option maxRecDepth 100000
set_option maxHeartbeats 80000000

structure WtOk (a r : Int → Nat) (W : Nat) : Prop where
 pos : ∀ k, 1 ≤ a k
 a1 : a 2 ≤ r 1 ∧ a 3 ≤ r 1
 a2 : a 4 ≤ r 2 ∧ a 5 ≤ r 2
 a4 : a 6 ≤ r 4
 a7 : a 4 ≤ r 7 ∧ a 5 ≤ r 7
 w : 8 * a 4 ≤ W ∧ 8 * a 5 ≤ W
def wtA (a : Int → Nat) (l : List Ml) : Nat := (l.map (fun m => a m.2.2.1)).sum
def phA (a : Int → Nat) (W : Nat) (N : Nx) : Nat := wtA a N.mail + W * opens N
section
variable {a r : Int → Nat} {W : Nat}
theorem wtA_app (l k : List Ml) : wtA a (l ++ k) = wtA a l + wtA a k := by unfold wtA; rw [List.map_append, List.sum_append]
theorem wtA_take (l : List Ml) (k : Nat) : wtA a (l.take k) ≤ wtA a l := by
 have h := wtA_app (a := a) (l.take k) (l.drop k)
 rw [List.take_append_drop] at h
 omega
theorem wtA_one (x : Ml) : wtA a [x] = a x.2.2.1 := by simp [wtA]
theorem wtA_erase {l : List Ml} {k : Nat} {m : Ml} (h : l[k]? = some m) : wtA a (l.eraseIdx k) + a m.2.2.1 = wtA a l := by
 have h1 := wtA_app (a := a) (l.take k ++ [m]) (l.drop (k + 1))
 rw [← split_at h, wtA_app, wtA_one] at h1
 rw [List.eraseIdx_eq_take_drop_succ, wtA_app]
 omega
theorem wtA_wr (s : Sx) (k tx : Int) : ∀ (ps : List Mv), wtA a (wrL s k tx ps) = ps.length * a k
 | [] => by simp [wtA, wrL]
 | p :: q => by
   have ih := wtA_wr s k tx q
   have e : wtA a (wrL s k tx (p :: q)) = a k + wtA a (wrL s k tx q) := by simp [wtA, wrL, wrM]
   rw [e, ih, List.length_cons, Nat.succ_mul]
   omega
theorem wtA_len (h : WtOk a r W) : ∀ l : List Ml, l.length ≤ wtA a l
 | [] => by simp [wtA]
 | m :: l => by
   have ih := wtA_len h l
   have h1 := h.pos m.2.2.1
   have e : wtA a (m :: l) = a m.2.2.1 + wtA a l := by simp [wtA]
   rw [e, List.length_cons]
   omega
theorem han_phA (hw : WtOk a r W) {q : Nat} {b : Int} {s : Sx} {m : Ml} (h : OkS q b s) (hm : OkM q b m) : wtA a (han s m).2 + W * (han s m).1.opn.length ≤ r m.2.2.1 + W * s.opn.length := by
 have hk := hm.kind
 obtain ⟨h12, h13⟩ := hw.a1
 obtain ⟨h24, h25⟩ := hw.a2
 have h46 := hw.a4
 obtain ⟨h74, h75⟩ := hw.a7
 obtain ⟨hw4, hw5⟩ := hw.w
 have w2 : a (repL s m 2).2.2.1 = a 2 := rfl
 have w3 : a (repL s m 3).2.2.1 = a 3 := rfl
 have w4 : a (repL s m 4).2.2.1 = a 4 := rfl
 have w5 : a (repL s m 5).2.2.1 = a 5 := rfl
 have w6 : a (repL s m 6).2.2.1 = a 6 := rfl
 have w0 : wtA a [] = 0 := rfl
 unfold han
 repeat' split
 ·rename_i k
  have e : (askS s m).opn = s.opn := by unfold askS; repeat' split
                                        all_goals rfl
  rw [k]
  dsimp only
  rw [e]
  unfold askL
  repeat' split
  all_goals (first | rw [wtA_one] | skip)
  all_goals omega
 ·rename_i k
  rw [k]
  dsimp only
  unfold agrS agrL
  cases ho : mget s.opn m.2.2.2.1 with
  | some d =>
    have hd := deal_mem h.opn ho
    dsimp only
    split
    ·dsimp only
     have h1 := mdel_len h.opnA ho
     have h4 := wtA_wr (a := a) s 4 m.2.2.2.1 d.parts
     have h5 := hd.hi
     have h6 : d.parts.length * a 4 ≤ 8 * a 4 := Nat.mul_le_mul_right _ h5
     rw [← h1, Nat.mul_succ]
     omega
    ·dsimp only
     rw [mput_len ho]
     omega
  | none =>
    dsimp only
    repeat' split
    all_goals (first | rw [wtA_one] | skip)
    all_goals omega
 ·rename_i k
  rw [k]
  dsimp only
  unfold disS disL
  cases ho : mget s.opn m.2.2.2.1 with
  | some d =>
    have hd := deal_mem h.opn ho
    dsimp only
    have h1 := mdel_len h.opnA ho
    have h4 := wtA_wr (a := a) s 5 m.2.2.2.1 (otherL d.parts m.1)
    have h5 : (otherL d.parts m.1).length ≤ d.parts.length := List.length_filter_le _ _
    have h6 := hd.hi
    have h7 : (otherL d.parts m.1).length * a 5 ≤ 8 * a 5 := Nat.mul_le_mul_right _ (by omega)
    rw [← h1, Nat.mul_succ]
    omega
  | none => dsimp only; omega
 ·rename_i k
  have e : (keepS s m.2.2.2.1).opn = s.opn := by unfold keepS; split <;> rfl
  rw [k]
  dsimp only
  rw [e]
  unfold keepL
  split
  ·rw [wtA_one]; omega
  ·omega
 ·have e : (aboS s m.2.2.2.1).opn = s.opn := by unfold aboS; split <;> rfl
  dsimp only
  rw [e]
  omega
 ·have e : (finS s m.1 m.2.2.2.1).opn = s.opn := by unfold finS; repeat' split
                                                    all_goals rfl
  dsimp only
  rw [e]
  omega
 ·have k : m.2.2.1 = 7 := by omega
  rw [k]
  dsimp only
  unfold telL
  repeat' split
  all_goals (first | rw [wtA_one] | skip)
  all_goals omega
theorem handN_phA (hw : WtOk a r W) {N : Nx} (ho : OkN N) {m : Ml} (hm : OkM N.sites.length N.begun m) : phA a W (handN N m) ≤ phA a W N + r m.2.2.1 := by
 unfold handN
 split
 ·omega
 rename_i s hs
 split
 ·have h1 := han_phA hw (ho.site _ _ hs).1 hm
  have h2 := opens_set hs (han s m).1
  have h3 := wtA_take (a := a) (han s m).2 (1024 - N.mail.length)
  have h4 := congrArg (fun x => W * x) h2
  (try dsimp only at h4)
  rw [Nat.mul_add, Nat.mul_add] at h4
  unfold phA
  unfold opens at h4 ⊢
  dsimp only
  rw [wtA_app]
  omega
 ·omega
theorem delN_phA (hw : WtOk a r W) {N : Nx} (ho : OkN N) {k : Nat} {m : Ml} (hm : N.mail[k]? = some m) : phA a W (delN N k) + a m.2.2.1 ≤ phA a W N + r m.2.2.1 := by
 have hok := ho.mail m (List.mem_of_getElem? hm)
 have he := wtA_erase (a := a) hm
 have h1 := handN_phA hw (ho.less k) (m := m) hok
 unfold delN
 rw [hm]
 dsimp only
 have e : phA a W { N with mail := N.mail.eraseIdx k } = wtA a (N.mail.eraseIdx k) + W * opens N := rfl
 have e2 : phA a W N = wtA a N.mail + W * opens N := rfl
 omega
end
def a2f (k : Int) : Nat := if k = 1 then 15 else if k = 2 then 7 else if k = 4 then 3 else if k = 7 then 7 else 1
def r2f (k : Int) : Nat := if k = 1 then 7 else if k = 2 then 3 else if k = 4 then 1 else if k = 7 then 3 else 0
theorem pos2 (k : Int) : 1 ≤ a2f k := by
 unfold a2f
 repeat' split
 all_goals omega
theorem ok2 : WtOk a2f r2f 24 := ⟨pos2, by decide, by decide, by decide, by decide, by decide⟩
theorem twi2 (k : Int) : 2 * r2f k + 1 ≤ a2f k := by
 unfold a2f r2f
 repeat' split
 all_goals omega
def a3f (k : Int) : Nat := if k = 1 then 8 else if k = 2 then 4 else if k = 4 then 2 else if k = 7 then 4 else 1
def r3f (k : Int) : Nat := if k = 1 then 4 else if k = 2 then 2 else if k = 4 then 1 else if k = 7 then 2 else 0
theorem pos3 (k : Int) : 1 ≤ a3f k := by
 unfold a3f
 repeat' split
 all_goals omega
theorem ok3 : WtOk a3f r3f 16 := ⟨pos3, by decide, by decide, by decide, by decide, by decide⟩
theorem twi3 (k : Int) : 2 * r3f k ≤ a3f k ∧ r3f k ≤ 4 := by
 unfold a3f r3f
 repeat' split
 all_goals omega
theorem phA_mail {a r : Int → Nat} {W : Nat} (hw : WtOk a r W) (N : Nx) : N.mail.length ≤ phA a W N := by
 have := wtA_len hw N.mail
 unfold phA
 omega

structure FitT (A : Int → At) (L : Ml → Prop) (c : Int) (G : Prop) : Prop where
 dr : ∀ k, (A k).dr = false
 no : ∀ m, L m → m.2.2.1 ≠ 3 ∧ (m.2.2.1 = 5 → G)
 go : (A c).op ≠ none ∨ G
theorem StepT.fit {A : Int → At} {L L' : Ml → Prop} {c : Int} {ps : List Mv} {G G' : Prop} {k : Int} {q : Bool} {m : Ml} {a' : At} {l : List Ml} (hs : StepT (A k) k q m a' l) (h : InvT A L c ps G) (hk : m.2.1 = k) (hm : LetOk A c ps G m) (hLm : L m) (hG : G → G') (h' : InvT (upd A k a') L' c ps G') (hL : ∀ x, L' x → L x ∨ x ∈ l)
 (hq : m.2.2.1 = 1 → (A k).pr = none → (A k).kp = false → q = true) (f : FitT A L c G) : FitT (upd A k a') L' c G' := by
 have hno := f.no m hLm
 have same : a'.dr = (A k).dr → a'.op = (A k).op → (∀ x ∈ l, x.2.2.1 ≠ 3 ∧ (x.2.2.1 = 5 → G')) → FitT (upd A k a') L' c G' := fun h1 h2 h3 => by
  refine ⟨fun j => ?_, fun x hx => ?_, ?_⟩
  ·unfold upd
   split
   ·rw [h1]; exact f.dr k
   ·exact f.dr j
  ·rcases hL x hx with h4 | h4
   ·exact ⟨(f.no x h4).1, fun e => hG ((f.no x h4).2 e)⟩
   ·exact h3 x h4
  ·rcases f.go with h4 | h4
   ·refine Or.inl ?_
    unfold upd
    split
    ·rename_i e; rw [h2, ← e]; exact h4
    ·exact h4
   ·exact Or.inr (hG h4)
 have one : ∀ {kd : Int} {x : Ml}, x ∈ [rep5 k m kd] → x.2.2.1 = kd := fun {kd x} hx => by rw [List.mem_singleton.1 hx]; rfl
 cases hs with
 | askY hk1 hp => exact same rfl rfl (fun x hx => by have := one hx; exact ⟨by omega, fun e => by omega⟩)
 | askK hk1 hp hkp => exact same rfl rfl (fun x hx => by cases hx)
 | askN hk1 hp hkp hd => rw [f.dr k] at hd; cases hd
 | askP hk1 hp hkp hd hq1 => exact same rfl rfl (fun x hx => by have := one hx; exact ⟨by omega, fun e => by omega⟩)
 | askR hk1 hp hkp hd hq1 => rw [hq hk1 hp hkp] at hq1; cases hq1
 | yesMore d hk1 ho hmi =>
   refine ⟨fun j => ?_, fun x hx => ?_, ?_⟩
   ·unfold upd
    split
    ·exact f.dr k
    ·exact f.dr j
   ·rcases hL x hx with h4 | h4
    ·exact ⟨(f.no x h4).1, fun e => hG ((f.no x h4).2 e)⟩
    ·cases h4
   ·rcases f.go with h4 | h4
    ·refine Or.inl ?_
     unfold upd
     split
     ·simp
     ·exact h4
    ·exact Or.inr (hG h4)
 | yesAll d hk1 ho hmi =>
   have hc : k = c := by rw [← hk]; exact (hm.yes hk1).1
   have hG' : G' := (h'.sit.gt k (dl0 d.parts) (by rw [upd_same])).2.1
   refine ⟨fun j => ?_, fun x hx => ?_, Or.inr hG'⟩
   ·unfold upd
    split
    ·exact f.dr k
    ·exact f.dr j
   ·rcases hL x hx with h4 | h4
    ·exact ⟨(f.no x h4).1, fun _ => hG'⟩
    ·obtain ⟨p, -, rfl⟩ := wr5_mem h4
     exact ⟨by simp, fun _ => hG'⟩
 | yesShut hk1 ho hg =>
   have hc : k = c := by rw [← hk]; exact (hm.yes hk1).1
   have hG0 : G := by
    rcases f.go with h4 | h4
    ·rw [← hc] at h4; exact absurd ho h4
    ·exact h4
   exact same rfl rfl (fun x hx => by have := one hx; exact ⟨by omega, fun _ => hG hG0⟩)
 | yesMiss d hk1 ho hg hmi => exact same rfl rfl (fun x hx => by have := one hx; exact ⟨by omega, fun e => by omega⟩)
 | yesHad d hk1 ho hg hmi => exact same rfl rfl (fun x hx => by cases hx)
 | noOpen d hk1 ho => exact absurd hk1 hno.1
 | noShut hk1 ho => exact absurd hk1 hno.1
 | comP hk1 hp => exact same rfl rfl (fun x hx => by have := one hx; exact ⟨by omega, fun e => by omega⟩)
 | comK hk1 hp hkp => exact same rfl rfl (fun x hx => by have := one hx; exact ⟨by omega, fun e => by omega⟩)
 | comN hk1 hp hkp => exact same rfl rfl (fun x hx => by cases hx)
 | aboP hk1 hp =>
   exfalso
   have hg := hno.2 hk1
   have h1 := (hm.abo hk1).2.2.2 hg
   cases hx : (A k).pr with
   | none => exact hp hx
   | some y =>
     obtain ⟨t', x'⟩ := y
     have h2 := (h.sit.prom k t' x' hx).2
     have h3 := h1 k ⟨x', h2⟩
     have h4 := ((h.sit.one k).1 hp).1
     rw [h3] at h4
     cases h4
 | aboN hk1 hp => exact same rfl rfl (fun x hx => by cases hx)
 | finMore d hk1 hg hmi => exact same rfl rfl (fun x hx => by cases hx)
 | finAll d hk1 hg hmi => exact same rfl rfl (fun x hx => by cases hx)
 | finNo hk1 hg => exact same rfl rfl (fun x hx => by cases hx)
 | telG d hk1 hg => exact same rfl rfl (fun x hx => by have := one hx; exact ⟨by omega, fun e => by omega⟩)
 | telO d hk1 hg ho => exact same rfl rfl (fun x hx => by cases hx)
 | telN hk1 hg ho =>
   have hc : k = c := by rw [← hk]; exact (hm.wha hk1).1
   have hG0 : G := by
    rcases f.go with h4 | h4
    ·rw [← hc] at h4; exact absurd ho h4
    ·exact h4
   exact same rfl rfl (fun x hx => by have := one hx; exact ⟨by omega, fun _ => hG hG0⟩)

def und (a : At) : Bool := a.pr.isNone && !a.kp
def negP (x : Int) : Int := if x < 0 then x else 0
def posP (x : Int) : Int := if x < 0 then 0 else x
def reS (f : Int → Int) (N : Nx) (pa : Int → List Mv) (b : Nat) (i : Int) : Int := ((List.range b).map (fun (j : Nat) => if und (atN N ((j : Int) + 1) i) then f (chg (pa ((j : Int) + 1)) i) else 0)).sum
def Fx (N : Nx) (pa : Int → List Mv) : Prop := ∀ (k : Nat) (s : Sx), N.sites[k]? = some s → 0 ≤ s.stock + sumP (-1) s.prom + reS negP N pa N.begun.toNat (k : Int) ∧ s.stock + sumP 0 s.prom + reS posP N pa N.begun.toNat (k : Int) ≤ 1099511627776
theorem sum_le {b : Nat} {f : Nat → Int} (h : ∀ j, j < b → f j ≤ 0) {i : Nat} (hi : i < b) : ((List.range b).map f).sum ≤ f i := by
 induction b with
 | zero => omega
 | succ b ih =>
   rw [List.range_succ, List.map_append, List.sum_append]
   simp only [List.map_cons, List.map_nil, List.sum_cons, List.sum_nil]
   by_cases e : i = b
   ·subst e
    have h0 : ((List.range i).map f).sum ≤ 0 := by
     clear ih hi
     have : ∀ c, c ≤ i → ((List.range c).map f).sum ≤ 0 := fun c => by
      induction c with
      | zero => intro _; simp
      | succ c ih =>
        intro hc
        have h1 := ih (by omega)
        have h2 := h c (by omega)
        rw [List.range_succ, List.map_append, List.sum_append]
        simp only [List.map_cons, List.map_nil, List.sum_cons, List.sum_nil]
        omega
     exact this i (Nat.le_refl _)
    omega
   ·have h1 := ih (fun j hj => h j (by omega)) (by omega)
    have h2 := h b (by omega)
    omega
theorem sum_ge {b : Nat} {f : Nat → Int} (h : ∀ j, j < b → 0 ≤ f j) {i : Nat} (hi : i < b) : f i ≤ ((List.range b).map f).sum := by
 have h1 := sum_le (f := fun j => - f j) (fun j hj => by have := h j hj; omega) hi
 have h2 : ∀ l : List Nat, (l.map (fun j => - f j)).sum = - (l.map f).sum := fun l => by
  induction l with
  | nil => rfl
  | cons x l ih => rw [List.map_cons, List.map_cons, List.sum_cons, List.sum_cons, ih]; omega
 rw [h2] at h1
 omega
theorem Fx.pos {N : Nx} {pa : Int → List Mv} (h : Fx N pa) (ho : OkN N) {k : Nat} {s : Sx} (hs : N.sites[k]? = some s) {t : Int} (h1 : 1 ≤ t) (h2 : t ≤ N.begun) (hu : und (atN N t (k : Int)) = true) : posS s (chg (pa t) (k : Int)) = true := by
 obtain ⟨f1, f2⟩ := h k s hs
 have hst := (ho.site k s hs).1.stock
 have hn := sumP_neg s.prom
 have hp := sumP_pos s.prom
 have hj : ((t.toNat - 1 : Nat) : Int) + 1 = t := by omega
 have g1 := sum_le (b := N.begun.toNat) (f := fun (j : Nat) => if und (atN N ((j : Int) + 1) (k : Int)) then negP (chg (pa ((j : Int) + 1)) (k : Int)) else 0) (fun j _ => by
  (try dsimp only)
  split
  ·unfold negP; split <;> omega
  ·omega) (i := t.toNat - 1) (by omega)
 have g2 := sum_ge (b := N.begun.toNat) (f := fun (j : Nat) => if und (atN N ((j : Int) + 1) (k : Int)) then posP (chg (pa ((j : Int) + 1)) (k : Int)) else 0) (fun j _ => by
  (try dsimp only)
  split
  ·unfold posP; split <;> omega
  ·omega) (i := t.toNat - 1) (by omega)
 (try dsimp only at g1 g2)
 rw [hj, if_pos hu] at g1 g2
 unfold reS at f1 f2
 unfold posS
 generalize chg (pa t) (k : Int) = x at g1 g2 ⊢
 simp only [Bool.and_eq_true, decide_eq_true_eq]
 by_cases hx : x < 0
 ·rw [sumP_sign (c := x) (c' := -1) (by simp [hx])]
  have e1 : negP x = x := if_pos hx
  rw [e1] at g1
  omega
 ·rw [sumP_sign (c := x) (c' := 0) (by simp [hx])]
  have e1 : posP x = x := if_neg hx
  rw [e1] at g2
  omega
theorem han_ways (s : Sx) (m : Ml) : ((han s m).1.stock = s.stock ∧ (han s m).1.prom = s.prom ∧ ∀ t, (atS (han s m).1 t).kp = (atS s t).kp) ∨
 (m.2.2.1 = 1 ∧ mget s.prom m.2.2.2.1 = none ∧ (atS s m.2.2.2.1).kp = false ∧ (han s m).1.stock = s.stock ∧ (han s m).1.prom = s.prom ++ [(m.2.2.2.1, (m.1, m.2.2.2.2))] ∧ ∀ t, (atS (han s m).1 t).kp = (atS s t).kp) ∨
 (∃ c x, mget s.prom m.2.2.2.1 = some (c, x) ∧ (han s m).1.stock = s.stock + x ∧ (han s m).1.prom = mdel s.prom m.2.2.2.1 ∧ ∀ t, (atS (han s m).1 t).kp = if t = m.2.2.2.1 then true else (atS s t).kp) ∨
 (m.2.2.1 = 5 ∧ mget s.prom m.2.2.2.1 ≠ none) := by
 unfold han
 repeat' split
 ·rename_i k
  unfold askS
  split
  ·exact Or.inl ⟨rfl, rfl, fun _ => rfl⟩
  ·rename_i ho
   have hn : mget s.prom m.2.2.2.1 = none := by
    cases hg : mget s.prom m.2.2.2.1 with
    | none => rfl
    | some x => exfalso; apply ho; unfold outS; simp [hg]
   have hk : (mget s.kept m.2.2.2.1).getD false = false := by
    cases hg : (mget s.kept m.2.2.2.1).getD false with
    | false => rfl
    | true => exfalso; apply ho; unfold outS; simp [hn, hg]
   split
   ·exact Or.inr (Or.inl ⟨k, hn, hk, rfl, mput_new _ hn, fun _ => rfl⟩)
   ·exact Or.inl ⟨rfl, rfl, fun _ => rfl⟩
 ·refine Or.inl ?_
  unfold agrS
  repeat' split
  all_goals exact ⟨rfl, rfl, fun _ => rfl⟩
 ·refine Or.inl ?_
  unfold disS
  repeat' split
  all_goals exact ⟨rfl, rfl, fun _ => rfl⟩
 ·unfold keepS
  cases h : mget s.prom m.2.2.2.1 with
  | none => exact Or.inl ⟨by simp, by simp, fun _ => by simp⟩
  | some d =>
    obtain ⟨c, x⟩ := d
    refine Or.inr (Or.inr (Or.inl ⟨c, x, rfl, by simp, by simp, fun t => ?_⟩))
    simp only [Option.isSome_some, if_true]
    unfold atS
    dsimp only
    rw [mget_put]
    split <;> rfl
 ·rename_i k
  unfold aboS
  cases h : mget s.prom m.2.2.2.1 with
  | none => exact Or.inl ⟨by simp, by simp, fun _ => by simp⟩
  | some d => exact Or.inr (Or.inr (Or.inr ⟨k, by simp⟩))
 ·refine Or.inl ?_
  unfold finS
  repeat' split
  all_goals exact ⟨rfl, rfl, fun _ => rfl⟩
 ·exact Or.inl ⟨rfl, rfl, fun _ => rfl⟩
theorem reS_same {f : Int → Int} {N N' : Nx} {pa : Int → List Mv} {b : Nat} {i : Int} (h : ∀ t, und (atN N' t i) = und (atN N t i)) : reS f N' pa b i = reS f N pa b i := by
 unfold reS
 exact sum_same (fun j _ => by rw [h])
theorem hand_fx {N : Nx} {co : Int → Int} {pa : Int → List Mv} {G : Int → Prop} (h : Fx N pa) (hi : Inv N co pa G) {m : Ml} (ho : OkN N) (hm : OkM N.sites.length N.begun m) (hl : LetOk (atN N m.2.2.2.1) (co m.2.2.2.1) (pa m.2.2.2.1) (G m.2.2.2.1) m) (hd : m.2.2.1 = 5 → (atN N m.2.2.2.1 m.2.1).pr = none) : Fx (handN N m) pa := by
 unfold handN
 split
 ·exact h
 rename_i s hs
 by_cases hup : s.up = true
 rotate_left
 ·rw [if_neg hup]; exact h
 rw [if_pos hup]
 have hdst := hm.dst
 have htx := hm.tx
 obtain ⟨k, hk⟩ : ∃ k : Nat, m.2.1 = (k : Int) := ⟨m.2.1.toNat, by omega⟩
 rw [hk, show ((k : Int)).toNat = k from rfl] at hs ⊢
 rw [hk] at hd
 have hI := hi.tx _ hm.tx.1 hm.tx.2
 have hP := (hi.ok _ hm.tx.1 hm.tx.2).2
 have hat := atN_of hs
 have e : ∀ t i, atN { N with sites := N.sites.set k (han s m).1, mail := N.mail ++ (han s m).2.take (1024 - N.mail.length) } t i = upd (atN N t) (k : Int) (atS (han s m).1 t) i := fun t i => by rw [← atN_set (N := N) hs (han s m).1 _ N.begun t]
 have hj0 : m.2.2.2.1.toNat - 1 < N.begun.toNat := by omega
 have hcast : (((m.2.2.2.1.toNat - 1 : Nat) : Int)) + 1 = m.2.2.2.1 := by omega
 obtain ⟨f1, f2⟩ := h k s hs
 have hprom : ∀ t, (atS s t).pr = mget s.prom t := fun _ => rfl
 have hprom' : ∀ t, (atS (han s m).1 t).pr = mget (han s m).1.prom t := fun _ => rfl
 have key : 0 ≤ (han s m).1.stock + sumP (-1) (han s m).1.prom + reS negP { N with sites := N.sites.set k (han s m).1, mail := N.mail ++ (han s m).2.take (1024 - N.mail.length) } pa N.begun.toNat (k : Int) ∧ (han s m).1.stock + sumP 0 (han s m).1.prom + reS posP { N with sites := N.sites.set k (han s m).1, mail := N.mail ++ (han s m).2.take (1024 - N.mail.length) } pa N.begun.toNat (k : Int) ≤ 1099511627776 := by
  rcases han_ways s m with ⟨w1, w2, w3⟩ | ⟨w0, w1, w2, w3, w4, w5⟩ | ⟨c, x, w1, w2, w3, w4⟩ | ⟨w1, w2⟩
  ·have hu : ∀ t, und (atN { N with sites := N.sites.set k (han s m).1, mail := N.mail ++ (han s m).2.take (1024 - N.mail.length) } t (k : Int)) = und (atN N t (k : Int)) := fun t => by
    rw [e, upd_same, hat]
    unfold und
    rw [w3, hprom', hprom, w2]
   rw [w1, w2, reS_same hu, reS_same hu]
   exact ⟨f1, f2⟩
  ·have hmem := (hl.ask w0).2
   rw [hk] at hmem
   have hch : chg (pa m.2.2.2.1) (k : Int) = m.2.2.2.2 := chg_of (q := N.sites.length) hP.nod hmem
   have hu0 : und (atN N m.2.2.2.1 (k : Int)) = true := by
    rw [hat]; unfold und; rw [hprom, w1, w2]; rfl
   have hu1 : und (atN { N with sites := N.sites.set k (han s m).1, mail := N.mail ++ (han s m).2.take (1024 - N.mail.length) } m.2.2.2.1 (k : Int)) = false := by
    rw [e, upd_same]; unfold und; rw [hprom', w4, mget_snoc _ _ _ _ w1, if_pos rfl]; rfl
   have hu2 : ∀ t, t ≠ m.2.2.2.1 → und (atN { N with sites := N.sites.set k (han s m).1, mail := N.mail ++ (han s m).2.take (1024 - N.mail.length) } t (k : Int)) = und (atN N t (k : Int)) := fun t ht => by
    rw [e, upd_same, hat]; unfold und; rw [hprom', hprom, w4, mget_snoc _ _ _ _ w1, if_neg ht, w5]
   have sub : ∀ f : Int → Int, reS f { N with sites := N.sites.set k (han s m).1, mail := N.mail ++ (han s m).2.take (1024 - N.mail.length) } pa N.begun.toNat (k : Int) = reS f N pa N.begun.toNat (k : Int) + (- f m.2.2.2.2) := fun f => by
    unfold reS
    refine sum_one (j := m.2.2.2.1.toNat - 1) hj0 ?_ (fun r hr hne => ?_)
    ·rw [hcast, hu1, hu0, hch, if_neg (by simp), if_pos rfl]
     omega
    ·rw [hu2 _ (by omega)]
   rw [w3, w4, sub, sub, sumP_app, sumP_app]
   simp only [sumP, addP, negP, posP]
   by_cases hx : m.2.2.2.2 < 0
   ·simp [hx]; omega
   ·simp [hx]; omega
  ·have hp : (atN N m.2.2.2.1 (k : Int)).pr = some (c, x) := by rw [hat]; exact w1
   have hu : ∀ t, und (atN { N with sites := N.sites.set k (han s m).1, mail := N.mail ++ (han s m).2.take (1024 - N.mail.length) } t (k : Int)) = und (atN N t (k : Int)) := fun t => by
    rw [e, upd_same, hat]
    unfold und
    rw [hprom', hprom, w3, w4, mget_del]
    by_cases ht : t = m.2.2.2.1
    ·rw [if_pos ht, if_pos ht, ht, w1]; rfl
    ·rw [if_neg ht, if_neg ht]
   rw [w2, w3, reS_same hu, reS_same hu, prom_split (ho.site k s hs).1.promA w1, prom_split (ho.site k s hs).1.promA w1]
   simp only [addP]
   by_cases hx : x < 0
   ·simp [hx]; omega
   ·simp [hx]; omega
  ·rw [hat] at hd
   exact absurd (hd w1) w2
 intro j u hu
 dsimp only at hu ⊢
 rw [List.getElem?_set] at hu
 by_cases e2 : k = j
 ·subst e2
  rw [if_pos rfl] at hu
  split at hu
  ·injection hu with hu
   subst hu
   exact key
  ·cases hu
 ·rw [if_neg e2] at hu
  have hu2 : ∀ t, und (atN { N with sites := N.sites.set k (han s m).1, mail := N.mail ++ (han s m).2.take (1024 - N.mail.length) } t (j : Int)) = und (atN N t (j : Int)) := fun t => by
   rw [e, upd_ne (by omega)]
  rw [reS_same hu2, reS_same hu2]
  exact h j u hu

end Go.Proofs.YtobcdkjomehdkaaGreat
