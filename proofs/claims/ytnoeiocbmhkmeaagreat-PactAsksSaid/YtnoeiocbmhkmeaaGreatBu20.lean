/- Layer 5: what a tick sends, as plain functions. -/
import Derived.Test.YtnoeiocbmhkmeaaGreatBu19
import Derived.Test.YtnoeiocbmhkmeaaGreatBu12
namespace Go.Proofs.YtnoeiocbmhkmeaaGreat
open Go.RowKit
open Go.Maps (Keyed)
set_option linter.unusedSimpArgs false
set_option maxRecDepth 100000
set_option maxHeartbeats 80000000

def keysS {β : Type} (l : List (Int × β)) : List Int := (l.map Prod.fst).mergeSort (fun x y => decide (x ≤ y))
theorem keysS_perm {β : Type} (l : List (Int × β)) : (keysS l).Perm (l.map Prod.fst) := List.mergeSort_perm _ _
theorem keysS_len {β : Type} (l : List (Int × β)) : (keysS l).length = l.length := by rw [(keysS_perm l).length_eq, List.length_map]
theorem keysS_of {β : Type} {l : List (Int × β)} {ss : List Int} (h : ss.Perm (l.map Prod.fst)) : ss.mergeSort (fun x y => decide (x ≤ y)) = keysS l := by
 have h1 : (ss.mergeSort (fun x y => decide (x ≤ y))).Perm (keysS l) := ((List.mergeSort_perm _ _).trans h).trans (keysS_perm l).symm
 have h2 : (ss.mergeSort (fun x y => decide (x ≤ y))).Pairwise (fun a b => (decide (a ≤ b)) = true) := List.pairwise_mergeSort (fun a b c h1 h2 => by simp at *; omega) (fun a b => by simp; omega) _
 have h3 : (keysS l).Pairwise (fun a b => (decide (a ≤ b)) = true) := List.pairwise_mergeSort (fun a b c h1 h2 => by simp at *; omega) (fun a b => by simp; omega) _
 exact h1.eq_of_pairwise (fun a b _ _ h1 h2 => by simp at *; omega) h2 h3
def missL (ps : List Mv) (ml : List (Int × Bool)) : List Mv := ps.filter (fun p => (mget ml p.1).getD false)
def askT (s : Sx) (tx : Int) : List Ml := match mget s.opn tx with
 | some d => wrL s 1 tx (missL d.parts d.miss)
 | none => []
def comT (s : Sx) (tx : Int) : List Ml := match mget s.grt tx with
 | some d => wrL s 4 tx (missL d.parts d.miss)
 | none => []
def whaT (s : Sx) (tx : Int) : Ml := (s.num, ((mget s.prom tx).getD (0, 0)).1, 7, tx, 0)
def remL (s : Sx) : List Ml := (keysS s.opn).flatMap (askT s) ++ (keysS s.grt).flatMap (comT s) ++ (keysS s.prom).map (whaT s)
structure DlOk (tx : Int) (d : Dl) : Prop where
 tx : I64 tx
 few : d.parts.length ≤ 8
 part : ∀ p ∈ d.parts, I64 p.1
structure RemOk (s : Sx) : Prop where
 opn : ∀ e ∈ s.opn, DlOk e.1 e.2
 grt : ∀ e ∈ s.grt, DlOk e.1 e.2
 prom : ∀ e ∈ s.prom, I64 e.1
 lo : s.opn.length ≤ 1000
 lg : s.grt.length ≤ 1000
 lp : s.prom.length ≤ 1000
theorem keyS_get {β : Type} {l : List (Int × β)} (hp : l.Pairwise (fun p q => p.1 ≠ q.1)) {i : Nat} {tx : Int} (h : (keysS l)[i]? = some tx) : ∃ x, (tx, x) ∈ l ∧ mget l tx = some x := by
 have h1 : tx ∈ l.map Prod.fst := (keysS_perm l).mem_iff.1 (List.mem_of_getElem? h)
 obtain ⟨e, he, rfl⟩ := List.mem_map.1 h1
 exact ⟨e.2, he, mget_of hp he⟩
theorem miss_few (ps : List Mv) (ml : List (Int × Bool)) : (missL ps ml).length ≤ ps.length := List.length_filter_le _ _
theorem take_flat {β γ : Type} {l : List β} {f : β → List γ} {i : Nat} {x : β} (h : l[i]? = some x) : (l.take (i + 1)).flatMap f = (l.take i).flatMap f ++ f x := by
 rw [List.take_add_one, h, Option.toList_some, List.flatMap_append]
 simp
theorem Rd_of_rows {α : Type} {enc : α → List Value} {k : Nat} (hk : ∀ x, (enc x).length = k) {w : World} {base : Nat} {t : TypeId} {A : Option Addr} {n c : Nat} {xs : List α} (hn : xs.length = n) (h : w.ownsRow base t k (.slice A n c) n (flatE enc xs)) : Rd k enc w A xs := by
 obtain ⟨A', c', e, -, h1, -⟩ := own_row hk hn h
 injection e with e1 _ _
 rw [e1]
 exact h1
theorem take_map {β γ : Type} {l : List β} {f : β → γ} {i : Nat} {x : β} (h : l[i]? = some x) : (l.take (i + 1)).map f = (l.take i).map f ++ [f x] := by
 rw [List.take_add_one, h, Option.toList_some, List.map_append]
 rfl
theorem keysS_dz (l : List (Int × Dl)) : keysS (dzs l) = keysS l := by
 unfold keysS dzs
 rw [List.map_map]
 rfl
theorem remL_nz (s : Sx) : remL (nz s) = remL s := by
 have h1 : askT (nz s) = askT s := by
  funext tx
  unfold askT
  show (match mget (dzs s.opn) tx with | some d => _ | none => _) = _
  rw [mget_dz]
  cases mget s.opn tx <;> rfl
 have h2 : comT (nz s) = comT s := by
  funext tx
  unfold comT
  show (match mget (dzs s.grt) tx with | some d => _ | none => _) = _
  rw [mget_dz]
  cases mget s.grt tx <;> rfl
 have h3 : whaT (nz s) = whaT s := rfl
 unfold remL
 rw [h1, h2, h3]
 show (keysS (dzs s.opn)).flatMap _ ++ (keysS (dzs s.grt)).flatMap _ ++ _ = _
 rw [keysS_dz, keysS_dz]
 rfl
theorem keysT_few {β : Type} {l : List (Int × β)} {b : Int} (hp : l.Pairwise (fun p q => p.1 ≠ q.1)) (h : ∀ e ∈ l, 1 ≤ e.1 ∧ e.1 ≤ b) (hb : b ≤ 256) : l.length ≤ 257 := by
 have h1 : (l.map (fun p => p.1.toNat)).Nodup := by
  rw [List.nodup_iff_pairwise_ne, List.pairwise_map]
  refine hp.imp_of_mem ?_
  intro p r hp hr hne e
  have := h p hp
  have := h r hr
  omega
 have h2 := List.Nodup.length_le_of_subset h1 (l₂ := List.range 257) (fun x hx => by
  obtain ⟨e, he, rfl⟩ := List.mem_map.1 hx
  have := h e he
  rw [List.mem_range]; omega)
 simpa using h2
theorem rem_ok {q : Nat} {b : Int} {s : Sx} (h : OkS q b (nz s)) (hb : b ≤ 256) (hq : q ≤ 8) : RemOk s := by
 have ho : ∀ e ∈ s.opn, (1 ≤ e.1 ∧ e.1 ≤ b) ∧ OkD q (dz e.2) := fun e he => h.opn (e.1, dz e.2) (List.mem_map.2 ⟨e, he, rfl⟩)
 have hg : ∀ e ∈ s.grt, (1 ≤ e.1 ∧ e.1 ≤ b) ∧ OkD q (dz e.2) := fun e he => h.grt (e.1, dz e.2) (List.mem_map.2 ⟨e, he, rfl⟩)
 have hp : ∀ e ∈ s.prom, (1 ≤ e.1 ∧ e.1 ≤ b) := fun e he => (h.prom e he).1
 have k1 := keysT_few h.opnA (fun e he => (h.opn e he).1) hb
 have k2 := keysT_few h.grtA (fun e he => (h.grt e he).1) hb
 have k3 := keysT_few h.promA (fun e he => (h.prom e he).1) hb
 have e1 : (nz s).opn.length = s.opn.length := List.length_map _
 have e2 : (nz s).grt.length = s.grt.length := List.length_map _
 have e3 : (nz s).prom.length = s.prom.length := rfl
 have key : ∀ (tx : Int) (d : Dl), (1 ≤ tx ∧ tx ≤ b) ∧ OkD q (dz d) → DlOk tx d := fun tx d hd => ⟨by unfold I64; omega, hd.2.hi, fun p hp => by
  have := hd.2.part p hp
  unfold I64; omega⟩
 exact ⟨fun e he => key _ _ (ho e he), fun e he => key _ _ (hg e he), fun e he => by have := hp e he; unfold I64; omega, by omega, by omega, by omega⟩
theorem miss_few8 {s : Sx} (h : RemOk s) : (remL s).length ≤ 20000 := by
 have fl : ∀ (f : Int → List Ml) (l : List Int), (∀ x ∈ l, (f x).length ≤ 8) → (l.flatMap f).length ≤ 8 * l.length := by
  intro f l
  induction l with
  | nil => intro _; simp
  | cons x r ih =>
    intro hx
    have h1 := ih (fun y hy => hx y (List.mem_cons_of_mem _ hy))
    have h2 := hx x (List.mem_cons_self)
    rw [List.flatMap_cons, List.length_append, List.length_cons]
    omega
 have a1 : ∀ x ∈ keysS s.opn, (askT s x).length ≤ 8 := fun x _ => by
  unfold askT
  split
  ·rename_i d hd
   have := (h.opn _ (mget_some hd)).few
   unfold wrL
   rw [List.length_map]
   exact Nat.le_trans (miss_few _ _) this
  ·simp
 have a2 : ∀ x ∈ keysS s.grt, (comT s x).length ≤ 8 := fun x _ => by
  unfold comT
  split
  ·rename_i d hd
   have := (h.grt _ (mget_some hd)).few
   unfold wrL
   rw [List.length_map]
   exact Nat.le_trans (miss_few _ _) this
  ·simp
 have b1 := fl _ _ a1
 have b2 := fl _ _ a2
 rw [keysS_len] at b1 b2
 have := h.lo
 have := h.lg
 have := h.lp
 unfold remL
 rw [List.length_append, List.length_append, List.length_map, keysS_len]
 omega
def tikI (N : Nx) (i : Int) : Nx := if refD N i = 0 then (match N.sites[i.toNat]? with
 | some s => { N with mail := N.mail ++ (remL s).take (1024 - N.mail.length) }
 | none => N) else N

def canE (N : Nx) (i tx : Int) : Int := if refD N i ≠ 0 then refD N i else if ((N.sites[i.toNat]?.bind (fun s => mget s.opn tx)).isSome) then 0 else 6
def canI (N : Nx) (i tx : Int) : Nx := if canE N i tx = 0 then (match N.sites[i.toNat]? with
 | some s => (match mget s.opn tx with
   | some d => { N with sites := N.sites.set i.toNat { s with opn := mdel s.opn tx }, mail := N.mail ++ (wrL s 5 tx d.parts).take (1024 - N.mail.length) }
   | none => N)
 | none => N) else N
theorem canE_nz (N : Nx) (i tx : Int) : canE (nzN N) i tx = canE N i tx := by
 unfold canE
 rw [refD_nz]
 show (if refD N i ≠ 0 then _ else if (((N.sites.map nz)[i.toNat]?.bind (fun s => mget s.opn tx)).isSome) then _ else _) = _
 rw [List.getElem?_map]
 cases N.sites[i.toNat]? with
 | none => rfl
 | some s =>
   show (if refD N i ≠ 0 then _ else if (mget (dzs s.opn) tx).isSome then _ else _) = _
   rw [mget_dz, Option.isSome_map]
   rfl
def craI (N : Nx) (i : Int) : Nx := if refD N i = 0 then atI N i (fun s => { s with up := false, opn := [] }) else N

end Go.Proofs.YtnoeiocbmhkmeaaGreat

namespace Go.Proofs.YtnoeiocbmhkmeaaGreat
set_option linter.unusedSimpArgs false
set_option maxRecDepth 100000
set_option maxHeartbeats 80000000

theorem Inv.forget {N : Nx} {co : Int → Int} {pa : Int → List Mv} {G : Int → Prop} (h : Inv N co pa G) {k : Nat} {s : Sx} (hk : N.sites[k]? = some s) (u : Bool) (l' : List (Int × Dl)) (hl : ∀ t, mget l' t = mget s.opn t ∨ mget l' t = none) (ml : List Ml)
 (hml : ∀ x ∈ ml, x ∈ N.mail ∨ ((∃ d, mget s.opn x.2.2.2.1 = some d ∧ mget l' x.2.2.2.1 = none ∧ ∃ p ∈ d.parts, x.2.1 = p.1) ∧ x.2.2.1 = 5 ∧ x.1 = (k : Int))) :
 Inv { N with sites := N.sites.set k { s with up := u, opn := l' }, mail := ml } co pa G := by
 have hset : ∀ t, atN { N with sites := N.sites.set k { s with up := u, opn := l' }, mail := ml } t = upd (atN N t) (k : Int) { atS s t with op := mget l' t } := fun t => atN_set (N := N) hk { s with up := u, opn := l' } ml N.begun t
 have hsame : ∀ t, mget l' t = mget s.opn t → atN { N with sites := N.sites.set k { s with up := u, opn := l' }, mail := ml } t = atN N t := fun t ht => by
  rw [hset t]
  refine upd_id ?_
  rw [atN_of hk, ht]
  rfl
 refine ⟨fun t h1 h2 => ?_, fun t h1 h2 => ?_, fun t i ht => ?_⟩
 ·have hI := h.tx t h1 h2
  by_cases he : mget l' t = mget s.opn t
  ·rw [hsame t he]
   refine hI.same (fun x hx => Or.inl ⟨?_, hx.2⟩)
   rcases hml x hx.1 with h3 | ⟨⟨d, h3, h4, -⟩, -⟩
   ·exact h3
   ·rw [hx.2] at h3 h4
    rw [h4, h3] at he
    cases he
  ·have hn : mget l' t = none := (hl t).resolve_left he
   cases hs : mget s.opn t with
   | none => rw [hs] at he; exact absurd hn he
   | some d =>
     have ha : (atN N t (k : Int)).op = some d := by rw [atN_of hk]; exact hs
     obtain ⟨a1, a2, a3, a4, a5, a6⟩ := hI.sit.op _ d ha
     have hst := hI.sit.coord none (atN N t (co t)).gt (G' := G t) (fun d' e => by cases e) (fun d' e => (hI.sit.gt _ d' e).2) (fun hg hn => hI.sit.fin hg hn) id (fun hg hn => absurd hg hn) (fun hg hn => absurd hg hn) (fun e => absurd rfl e)
     have e1 : ({ atN N t (co t) with op := none, gt := (atN N t (co t)).gt } : At) = { atS s t with op := mget l' t } := by
      rw [← a1, atN_of hk, hn]
     rw [e1, ← a1] at hst
     rw [hset t, ← a1]
     refine hI.on (A' := upd (atN N t) (k : Int) { atS s t with op := mget l' t }) (by rw [a1] at hst ⊢; exact hst) ?_ |> fun z => by rw [a1] at z ⊢; exact z
     intro x hx
     rcases hml x hx.1 with h3 | ⟨⟨d', h3, h4, p, hp, h5⟩, h6, h7⟩
     ·exact Or.inl ⟨h3, hx.2⟩
     ·rw [hx.2, hs] at h3
      injection h3 with h3
      subst h3
      refine Or.inr ⟨fun e => by omega, fun e => by omega, fun e => by omega, fun e => by omega, fun _ => ⟨by rw [h7, a1], ⟨p.2, by rw [h5, ← a3]; exact hp⟩, ?_, fun hG => absurd hG a2⟩, fun e => by omega, fun e => by omega⟩
      rw [← a1, upd_same]
      exact hn
 ·dsimp only
  rw [List.length_set]
  exact h.ok t h1 h2
 ·have : mget l' t = mget s.opn t := by
   rcases hl t with h3 | h3
   ·exact h3
   ·have h4 := h.fresh t (k : Int) ht
    rw [atN_of hk] at h4
    have h5 : mget s.opn t = none := congrArg At.op h4
    rw [h3, h5]
  rw [hsame t this]
  exact h.fresh t i ht
def Good (N : Nx) : Prop := OkN N ∧ ∃ co pa G, Inv N co pa G
theorem remL_ok {N : Nx} {co : Int → Int} {pa : Int → List Mv} {G : Int → Prop} (hi : Inv N co pa G) (ho : OkN N) {k : Nat} {s : Sx} (hk : N.sites[k]? = some s) {x : Ml} (hx : x ∈ remL s) :
 OkM N.sites.length N.begun x ∧ LetOk (atN N x.2.2.2.1) (co x.2.2.2.1) (pa x.2.2.2.1) (G x.2.2.2.1) x := by
 have hs := ho.site k s hk
 unfold remL at hx
 rcases List.mem_append.1 hx with hx | hx
 ·rcases List.mem_append.1 hx with hx | hx
  ·obtain ⟨tx, -, hx⟩ := List.mem_flatMap.1 hx
   unfold askT at hx
   split at hx
   ·rename_i d hd
    have hdd := hs.1.opn _ (mget_some hd)
    obtain ⟨p, hp, rfl⟩ := wr5_mem hx
    have hpp : p ∈ d.parts := (List.mem_filter.1 hp).1
    have hok := wr_ok hs.1 (k := 1) (tx := tx) (ps := d.parts) (by omega) hdd.1 hdd.2.part _ (List.mem_map_of_mem (f := wrM s 1 tx) hpp)
    refine ⟨hok, ?_⟩
    obtain ⟨a1, -, a3, -⟩ := (hi.tx tx hdd.1.1 hdd.1.2).sit.op (k : Int) d (by rw [atN_of hk]; exact hd)
    exact ⟨fun _ => ⟨hs.2.trans a1, by rw [← a3]; simpa using hpp⟩, fun e => by simp at e, fun e => by simp at e, fun e => by simp at e, fun e => by simp at e, fun e => by simp at e, fun e => by simp at e⟩
   ·cases hx
  ·obtain ⟨tx, -, hx⟩ := List.mem_flatMap.1 hx
   unfold comT at hx
   split at hx
   ·rename_i d hd
    have hdd := hs.1.grt _ (mget_some hd)
    obtain ⟨p, hp, rfl⟩ := wr5_mem hx
    have hpp : p ∈ d.parts := (List.mem_filter.1 hp).1
    have hok := wr_ok hs.1 (k := 4) (tx := tx) (ps := d.parts) (by omega) hdd.1 hdd.2.part _ (List.mem_map_of_mem (f := wrM s 4 tx) hpp)
    refine ⟨hok, ?_⟩
    obtain ⟨a1, a2, a3, -⟩ := (hi.tx tx hdd.1.1 hdd.1.2).sit.gt (k : Int) d (by rw [atN_of hk]; exact hd)
    exact ⟨fun e => by simp at e, fun e => by simp at e, fun e => by simp at e, fun _ => ⟨hs.2.trans a1, ⟨p.2, by rw [← a3]; simpa using hpp⟩, a2⟩, fun e => by simp at e, fun e => by simp at e, fun e => by simp at e⟩
   ·cases hx
 ·obtain ⟨tx, htx, rfl⟩ := List.mem_map.1 hx
  have h1 : tx ∈ s.prom.map Prod.fst := (keysS_perm s.prom).mem_iff.1 htx
  obtain ⟨e, he, rfl⟩ := List.mem_map.1 h1
  have hm := mget_of hs.1.promA he
  have hp := hs.1.prom e he
  obtain ⟨tx, t, c⟩ := e
  dsimp only at hm hp
  have ew : whaT s tx = (s.num, t, 7, tx, 0) := by unfold whaT; rw [hm]; rfl
  dsimp only
  rw [ew]
  refine ⟨⟨hs.1.num, hp.2.1, by simp, hp.1, by simp⟩, ?_⟩
  obtain ⟨a1, a2⟩ := (hi.tx tx hp.1.1 hp.1.2).sit.prom (k : Int) t c (by rw [atN_of hk]; exact hm)
  exact ⟨fun e => by simp at e, fun e => by simp at e, fun e => by simp at e, fun e => by simp at e, fun e => by simp at e, fun e => by simp at e, fun _ => ⟨a1, ⟨c, by dsimp only; rw [hs.2]; exact a2⟩⟩⟩
set_option maxRecDepth 100000
set_option maxHeartbeats 80000000

def outA (a : At) : Int := if a.pr.isSome then 1 else if a.kp then 2 else if a.dr then 3 else 0
def outM (o o' : Int) : Prop := (1 < o → o' = o) ∧ (o = 1 → o' ≠ 0)
def ActR (ps : List Mv) (N N' : Nx) : Prop :=
 (∃ i, N' = begI N i ps) ∨ (∃ i tx, N' = canI N i tx) ∨ (∃ i, N' = delI N i) ∨ (∃ i, N' = repI N i) ∨ (∃ i, N' = losI N i) ∨ (∃ i, N' = tikI N i) ∨ (∃ i, N' = craI N i) ∨ (∃ i, N' = staI N i)
theorem hand_len (N : Nx) (m : Ml) : (handN N m).sites.length = N.sites.length ∧ (handN N m).begun = N.begun := by
 unfold handN
 repeat' split
 all_goals simp
theorem newN_good {l : List Int} (h : okStocks l = true) : Good (newN l) :=
 ⟨newN_ok h, fun _ => 0, fun _ => [], fun _ => False, ⟨fun t h1 h2 => by have : (newN l).begun = 0 := rfl; omega, fun t h1 h2 => by have : (newN l).begun = 0 := rfl; omega, fun t i _ => by
   unfold atN
   split
   ·rfl
   ·cases hk : (newN l).sites[i.toNat]? with
    | none => rfl
    | some s =>
      have hkn := (List.getElem?_eq_some_iff.1 hk).1
      rw [newN_len] at hkn
      have := newN_site (l := l) (k := i.toNat) (x := l[i.toNat]) (List.getElem?_eq_getElem hkn)
      rw [this] at hk
      injection hk with hk
      subst hk
      rfl⟩⟩
set_option maxRecDepth 100000
set_option maxHeartbeats 80000000

def wasF (o o' : Int → Int → Int) (T T' tx s r : Nat) : List Int := (List.range (if T' < tx ∨ (T' = tx ∧ r < s) then T' else T)).map (fun j => if j + 1 < tx ∨ (j + 1 = tx ∧ r < s) then o' ((j : Int) + 1) r else o ((j : Int) + 1) r)
def lsF (o o' : Int → Int → Int) (k T T' tx s : Nat) : List (List Int) := (List.range 5).map (fun r => if r < k then wasF o o' T T' tx s r else [])
def lsE (o : Int → Int → Int) (k T : Nat) : List (List Int) := (List.range 5).map (fun r => if r < k then (List.range T).map (fun (j : Nat) => o ((j : Int) + 1) r) else [])
section
variable {o o' : Int → Int → Int} {k T T' tx s : Nat}
end
set_option maxRecDepth 100000
set_option maxHeartbeats 80000000

theorem mget_all_none {β : Type} {l : List (Int × β)} (h : ∀ t, mget l t = none) : l = [] := by
 cases l with
 | nil => rfl
 | cons p r => exact absurd rfl (mget_none.1 (h p.1) p List.mem_cons_self)
set_option maxRecDepth 100000
set_option maxHeartbeats 80000000

def chg (ps : List Mv) (i : Int) : Int := ((ps.filter (fun p => p.1 == i)).map (·.2)).sum
def kpS (N : Nx) (pa : Int → List Mv) (b : Nat) (i : Int) : Int := ((List.range b).map (fun (j : Nat) => if (atN N ((j : Int) + 1) i).kp then chg (pa ((j : Int) + 1)) i else 0)).sum
theorem sum_same {b : Nat} {f g : Nat → Int} (h : ∀ j, j < b → f j = g j) : ((List.range b).map f).sum = ((List.range b).map g).sum := by
 rw [List.map_congr_left (fun j hj => h j (List.mem_range.1 hj))]
theorem sum_one : ∀ {b : Nat} {f g : Nat → Int} {j : Nat} {x : Int}, j < b → g j = f j + x → (∀ r, r < b → r ≠ j → g r = f r) → ((List.range b).map g).sum = ((List.range b).map f).sum + x
 | 0, f, g, j, x, hj, _, _ => by omega
 | b + 1, f, g, j, x, hj, h1, h2 => by
   rw [List.range_succ, List.map_append, List.map_append, List.sum_append, List.sum_append]
   simp only [List.map_cons, List.map_nil, List.sum_cons, List.sum_nil]
   by_cases e : j = b
   ·subst e
    rw [sum_same (g := f) (fun r hr => h2 r (by omega) (by omega)), h1]
    omega
   ·rw [sum_one (j := j) (x := x) (by omega) h1 (fun r hr hne => h2 r (by omega) hne), h2 b (by omega) (fun e2 => e e2.symm)]
    omega
theorem hanK_stock (s : Sx) (m : Ml) : (∃ c x, mget s.prom m.2.2.2.1 = some (c, x) ∧ (han s m).1.stock = s.stock + x ∧ ∀ t, (atS (han s m).1 t).kp = if t = m.2.2.2.1 then true else (atS s t).kp) ∨ ((han s m).1.stock = s.stock ∧ ∀ t, (atS (han s m).1 t).kp = (atS s t).kp) := by
 unfold han
 repeat' split
 ·refine Or.inr ?_
  unfold askS
  repeat' split
  all_goals exact ⟨rfl, fun _ => rfl⟩
 ·refine Or.inr ?_
  unfold agrS
  repeat' split
  all_goals exact ⟨rfl, fun _ => rfl⟩
 ·refine Or.inr ?_
  unfold disS
  repeat' split
  all_goals exact ⟨rfl, fun _ => rfl⟩
 ·unfold keepS
  cases h : mget s.prom m.2.2.2.1 with
  | none => exact Or.inr ⟨by simp, fun _ => by simp⟩
  | some d =>
    obtain ⟨c, x⟩ := d
    refine Or.inl ⟨c, x, rfl, by simp, fun t => ?_⟩
    simp only [Option.isSome_some, if_true]
    unfold atS
    dsimp only
    rw [mget_put]
    split <;> rfl
 ·refine Or.inr ?_
  unfold aboS
  repeat' split
  all_goals exact ⟨rfl, fun _ => rfl⟩
 ·refine Or.inr ?_
  unfold finS
  repeat' split
  all_goals exact ⟨rfl, fun _ => rfl⟩
 ·exact Or.inr ⟨rfl, fun _ => rfl⟩
def Stk (N : Nx) (pa : Int → List Mv) (own : List Int) : Prop := own.length = N.sites.length ∧ ∀ (k : Nat) (s : Sx), N.sites[k]? = some s → s.stock = own.getD k 0 + kpS N pa N.begun.toNat (k : Int)
set_option maxRecDepth 100000
set_option maxHeartbeats 80000000

def paA (all : List (List Mv)) (t : Int) : List Mv := all.getD (t.toNat - 1) []
structure Cm (N : Nx) (own : List Int) (all : List (List Mv)) (K : Int → Prop) : Prop where
 ok : OkN N
 len : N.begun = (all.length : Int)
 inv : ∃ co G, Inv N co (paA all) G ∧ Liv N co K
 stk : Stk N (paA all) own
def Ups (N : Nx) : Prop := ∀ s ∈ N.sites, s.up = true
section
variable {N : Nx} {own : List Int} {all : List (List Mv)}
end
theorem sum_nought : ∀ (b : Nat), ((List.range b).map (fun _ => (0 : Int))).sum = 0
 | 0 => rfl
 | b + 1 => by rw [List.range_succ, List.map_append, List.sum_append, sum_nought b]; rfl
def addK (c : Int → Bool) (ow : List Int) (ps : List Mv) : List Int := ps.foldl (fun o p => if c p.1 then o.set p.1.toNat (o.getD p.1.toNat 0 + p.2) else o) ow
def owT (N : Nx) (pa : Int → List Mv) (own : List Int) : Nat → List Int
 | 0 => own
 | t + 1 => addK (fun i => (atN N ((t : Int) + 1) i).kp) (owT N pa own t) (pa ((t : Int) + 1))
set_option maxRecDepth 100000
set_option maxHeartbeats 80000000

structure XS where
 stock : Int
 down : Bool
 minds : List (Int × (Int × Int))
structure XT where
 at5 : Int
 is : Int
 parts : List Mv
 heard : List Bool
structure XN where
 sites : List XS
 txs : List XT
 mail : List Ml
def xs0 : XS := ⟨0, false, []⟩
def xt0 : XT := ⟨0, 0, [], []⟩
def xSite (n : XN) (s : Int) : XS := n.sites.getD s.toNat xs0
def xTx (n : XN) (tx : Int) : XT := n.txs.getD (tx - 1).toNat xt0
def xMindAt (n : XN) (s tx : Int) : Int × (Int × Int) := (xSite n s).minds.getD (tx - 1).toNat (0, (0, 0))
def xSend (n : XN) (m : Ml) : XN := if 1024 ≤ n.mail.length then n else { n with mail := n.mail ++ [m] }
def xPart (ps : List Mv) (f : Int) : Int := match ps.findIdx? (fun p => p.1 == f) with
 | some i => (i : Int)
 | none => -1
def xTellL (t : XT) (fr kd tx but : Int) (silent : Bool) : List Ml := ((t.parts.zip t.heard).filter (fun p => !(p.1.1 == but || (silent && p.2)))).map (fun p => (fr, p.1.1, kd, tx, if kd = 1 then p.1.2 else 0))
def xTell (n : XN) (fr kd tx but : Int) (silent : Bool) : XN := (xTellL (xTx n tx) fr kd tx but silent).foldl xSend n
def xTurn (n : XN) (tx is : Int) : XN := { n with txs := n.txs.set (tx - 1).toNat { xTx n tx with is := is, heard := List.replicate (xTx n tx).parts.length false } }
def xState (n : XN) (s tx : Int) : Int := if (xTx n tx).at5 = s then (xTx n tx).is else 0
def xHear (n : XN) (tx k : Int) : XN := { n with txs := n.txs.set (tx - 1).toNat { xTx n tx with heard := (xTx n tx).heard.set k.toNat true } }
def xMind (n : XN) (s tx : Int) (v : Int × (Int × Int)) : XN := { n with sites := n.sites.set s.toNat { xSite n s with minds := (xSite n s).minds.set (tx - 1).toNat v } }
def xAdd (n : XN) (s x : Int) : XN := { n with sites := n.sites.set s.toNat { xSite n s with stock := (xSite n s).stock + x } }
def xSum (c : Int) (l : List (Int × (Int × Int))) : Int := (l.map (fun m => if m.1 = 1 ∧ decide (m.2.2 < 0) = decide (c < 0) then m.2.2 else 0)).sum
def xPoss (s : XS) (c : Int) : Bool := (decide (c < 0) && decide (0 ≤ s.stock + c + xSum c s.minds)) || (decide (0 < c) && decide (s.stock + c + xSum c s.minds ≤ 1099511627776))
def xHandle (n : XN) (m : Ml) : XN :=
 if m.2.2.1 = 1 then
  if (xMindAt n m.2.1 m.2.2.2.1).1 = 1 then xSend n (m.2.1, m.1, 2, m.2.2.2.1, 0)
  else if (xMindAt n m.2.1 m.2.2.2.1).1 = 3 then xSend n (m.2.1, m.1, 3, m.2.2.2.1, 0)
  else if (xMindAt n m.2.1 m.2.2.2.1).1 = 2 then n
  else if xPoss (xSite n m.2.1) m.2.2.2.2 then xSend (xMind n m.2.1 m.2.2.2.1 (1, (m.1, m.2.2.2.2))) (m.2.1, m.1, 2, m.2.2.2.1, 0)
  else xSend (xMind n m.2.1 m.2.2.2.1 (3, (0, 0))) (m.2.1, m.1, 3, m.2.2.2.1, 0)
 else if m.2.2.1 = 2 then
  if xState n m.2.1 m.2.2.2.1 = 0 then xSend n (m.2.1, m.1, 5, m.2.2.2.1, 0)
  else if xPart (xTx n m.2.2.2.1).parts m.1 < 0 then n
  else if xState n m.2.1 m.2.2.2.1 = 2 then (if (xTx n m.2.2.2.1).heard.getD (xPart (xTx n m.2.2.2.1).parts m.1).toNat false then n else xSend n (m.2.1, m.1, 4, m.2.2.2.1, 0))
  else if ((xTx n m.2.2.2.1).heard.set (xPart (xTx n m.2.2.2.1).parts m.1).toNat true).all id then xTell (xTurn (xHear n m.2.2.2.1 (xPart (xTx n m.2.2.2.1).parts m.1)) m.2.2.2.1 2) m.2.1 4 m.2.2.2.1 (-1) false
  else xHear n m.2.2.2.1 (xPart (xTx n m.2.2.2.1).parts m.1)
 else if m.2.2.1 = 3 then (if xState n m.2.1 m.2.2.2.1 = 1 then xTell (xTurn n m.2.2.2.1 0) m.2.1 5 m.2.2.2.1 m.1 false else n)
 else if m.2.2.1 = 4 then
  if (xMindAt n m.2.1 m.2.2.2.1).1 = 1 then xSend (xMind (xAdd n m.2.1 (xMindAt n m.2.1 m.2.2.2.1).2.2) m.2.1 m.2.2.2.1 (2, (0, 0))) (m.2.1, m.1, 6, m.2.2.2.1, 0)
  else if (xMindAt n m.2.1 m.2.2.2.1).1 = 2 then xSend n (m.2.1, m.1, 6, m.2.2.2.1, 0) else n
 else if m.2.2.1 = 5 then (if (xMindAt n m.2.1 m.2.2.2.1).1 = 1 then xMind n m.2.1 m.2.2.2.1 (3, (0, 0)) else n)
 else if m.2.2.1 = 6 then
  if xState n m.2.1 m.2.2.2.1 = 2 ∧ 0 ≤ xPart (xTx n m.2.2.2.1).parts m.1 then
   (if ((xTx n m.2.2.2.1).heard.set (xPart (xTx n m.2.2.2.1).parts m.1).toNat true).all id then xTurn (xHear n m.2.2.2.1 (xPart (xTx n m.2.2.2.1).parts m.1)) m.2.2.2.1 0 else xHear n m.2.2.2.1 (xPart (xTx n m.2.2.2.1).parts m.1))
  else n
 else if m.2.2.1 = 7 then
  if xState n m.2.1 m.2.2.2.1 = 2 then xSend n (m.2.1, m.1, 4, m.2.2.2.1, 0) else if xState n m.2.1 m.2.2.2.1 = 0 then xSend n (m.2.1, m.1, 5, m.2.2.2.1, 0) else n
 else n
def mindA (a : At) : Int × (Int × Int) := match a.pr with
 | some (c, x) => (1, (c, x))
 | none => if a.kp then (2, (0, 0)) else if a.dr then (3, (0, 0)) else (0, (0, 0))
def stA (a : At) : Int := if a.op.isSome then 1 else if a.gt.isSome then 2 else 0
def mindsA (N : Nx) (k : Int) : List (Int × (Int × Int)) := (List.range N.begun.toNat).map (fun (j : Nat) => mindA (atN N ((j : Int) + 1) k))
def xtOf (N : Nx) (co : Int → Int) (pa : Int → List Mv) (hd : Int → List Bool) (t : Int) : XT := ⟨co t, stA (atN N t (co t)), pa t, hd t⟩
def xOf (N : Nx) (co : Int → Int) (pa : Int → List Mv) (hd : Int → List Bool) : XN :=
 ⟨(List.range N.sites.length).map (fun (k : Nat) => ⟨(N.sites.getD k ⟨0, 0, true, [], [], [], [], [], 0, 0, 0, 0, 0, 0⟩).stock, !(N.sites.getD k ⟨0, 0, true, [], [], [], [], [], 0, 0, 0, 0, 0, 0⟩).up, mindsA N (k : Int)⟩),
  (List.range N.begun.toNat).map (fun (j : Nat) => xtOf N co pa hd ((j : Int) + 1)), N.mail⟩
def HdT (a : At) (ps : List Mv) (hs : List Bool) : Prop := hs.length = ps.length ∧ (∀ d, a.op = some d → ∀ (i : Nat) (p : Mv), ps[i]? = some p → hs[i]? = some (mget d.miss p.1).isNone) ∧ (∀ d, a.gt = some d → ∀ (i : Nat) (p : Mv), ps[i]? = some p → hs[i]? = some (mget d.miss p.1).isNone)
def HdOk (N : Nx) (co : Int → Int) (pa : Int → List Mv) (hd : Int → List Bool) : Prop := ∀ t, 1 ≤ t → t ≤ N.begun → HdT (atN N t (co t)) (pa t) (hd t)
section
variable {N : Nx} {co : Int → Int} {pa : Int → List Mv} {hd : Int → List Bool}
theorem xTx_of {t : Int} (h1 : 1 ≤ t) (h2 : t ≤ N.begun) : xTx (xOf N co pa hd) t = xtOf N co pa hd t := by
 unfold xTx xOf
 dsimp only
 rw [List.getD_eq_getElem?_getD, List.getElem?_map, List.getElem?_range (by omega), Option.map_some, Option.getD_some]
 congr 1
 omega
theorem xSite_of {k : Nat} {s : Sx} (hs : N.sites[k]? = some s) : xSite (xOf N co pa hd) (k : Int) = ⟨s.stock, !s.up, mindsA N (k : Int)⟩ := by
 have hk := (List.getElem?_eq_some_iff.1 hs).1
 unfold xSite xOf
 dsimp only
 rw [show ((k : Int)).toNat = k from rfl, List.getD_eq_getElem?_getD, List.getElem?_map, List.getElem?_range hk, Option.map_some, Option.getD_some, List.getD_eq_getElem?_getD, hs]
 rfl
theorem xMindAt_of {k : Nat} {s : Sx} (hs : N.sites[k]? = some s) {t : Int} (h1 : 1 ≤ t) (h2 : t ≤ N.begun) : xMindAt (xOf N co pa hd) (k : Int) t = mindA (atS s t) := by
 unfold xMindAt
 rw [xSite_of hs]
 dsimp only
 unfold mindsA
 rw [List.getD_eq_getElem?_getD, List.getElem?_map, List.getElem?_range (by omega), Option.map_some, Option.getD_some, ← atN_of hs]
 congr 2
 omega
theorem xState_of {t : Int} (h1 : 1 ≤ t) (h2 : t ≤ N.begun) (k : Int) : xState (xOf N co pa hd) k t = if co t = k then stA (atN N t (co t)) else 0 := by
 unfold xState
 rw [xTx_of h1 h2]
 rfl
theorem sends : ∀ (l : List Ml) (n : XN), n.mail.length ≤ 1024 → l.foldl xSend n = { n with mail := n.mail ++ l.take (1024 - n.mail.length) }
 | [], n, _ => by simp
 | m :: r, n, h => by
   rw [List.foldl_cons]
   by_cases hf : 1024 ≤ n.mail.length
   ·have e : xSend n m = n := by unfold xSend; rw [if_pos hf]
    rw [e, sends r n h]
    have : 1024 - n.mail.length = 0 := by omega
    rw [this]
    simp
   ·have e : xSend n m = { n with mail := n.mail ++ [m] } := by unfold xSend; rw [if_neg hf]
    rw [e, sends r _ (by simp; omega)]
    obtain ⟨c, hc⟩ : ∃ c, 1024 - n.mail.length = c + 1 := ⟨1024 - n.mail.length - 1, by omega⟩
    simp only [List.length_append, List.length_cons, List.length_nil, hc, List.take_succ_cons, List.append_assoc, List.singleton_append, Nat.zero_add]
    rw [show 1024 - (n.mail.length + 1) = c by omega]
theorem send_one (n : XN) (m : Ml) (h : n.mail.length ≤ 1024) : xSend n m = { n with mail := n.mail ++ [m].take (1024 - n.mail.length) } := sends [m] n h
theorem list_set {α : Type} {b : Nat} {f g : Nat → α} {j : Nat} {v : α} (hv : g j = v) (h : ∀ i, i < b → i ≠ j → g i = f i) : ((List.range b).map f).set j v = (List.range b).map g := by
 refine List.ext_getElem? (fun i => ?_)
 rw [List.getElem?_set]
 by_cases e : j = i
 ·subst e
  rw [if_pos rfl]
  by_cases hj : j < b
  ·rw [if_pos (by simpa using hj), List.getElem?_map, List.getElem?_range hj, Option.map_some, hv]
  ·rw [if_neg (by simpa using hj), List.getElem?_eq_none (by simp; omega)]
 ·rw [if_neg e]
  by_cases hi : i < b
  ·rw [List.getElem?_map, List.getElem?_map, List.getElem?_range hi, Option.map_some, Option.map_some, h i hi (fun e2 => e e2.symm)]
  ·rw [List.getElem?_eq_none (by simp; omega), List.getElem?_eq_none (by simp; omega)]
theorem xOf_turn {k : Nat} {s s' : Sx} (hs : N.sites[k]? = some s) (hu : s'.up = s.up) {t : Int} (h1 : 1 ≤ t) (_h2 : t ≤ N.begun) (ho : ∀ t', t' ≠ t → atS s' t' = atS s t') (ml : List Ml) (hd' : Int → List Bool) (hh : ∀ t', t' ≠ t → hd' t' = hd t') :
 xOf { N with sites := N.sites.set k s', mail := ml } co pa hd' = { sites := (xOf N co pa hd).sites.set k ⟨s'.stock, !s.up, (mindsA N (k : Int)).set (t - 1).toNat (mindA (atS s' t))⟩, txs := (xOf N co pa hd).txs.set (t - 1).toNat ⟨co t, stA (if co t = (k : Int) then atS s' t else atN N t (co t)), pa t, hd' t⟩, mail := ml } := by
 have hk := (List.getElem?_eq_some_iff.1 hs).1
 have hat : ∀ t i, atN { N with sites := N.sites.set k s', mail := ml } t i = upd (atN N t) (k : Int) (atS s' t) i := fun t i => by rw [← atN_set (N := N) hs s' ml N.begun t]
 have hj : (((t - 1).toNat : Nat) : Int) + 1 = t := by omega
 unfold xOf
 dsimp only
 congr 1
 ·rw [List.length_set]
  refine (list_set ?_ (fun i hi hne => ?_)).symm
  ·rw [List.getD_eq_getElem?_getD, List.getElem?_set, if_pos rfl, if_pos hk, Option.getD_some, hu]
   congr 1
   unfold mindsA
   dsimp only
   refine (list_set ?_ (fun j hj2 hne => ?_)).symm
   ·rw [hj, hat, upd_same]
   ·rw [hat, upd_same, ho _ (by omega), atN_of hs]
  ·have e1 : (N.sites.set k s').getD i ⟨0, 0, true, [], [], [], [], [], 0, 0, 0, 0, 0, 0⟩ = N.sites.getD i ⟨0, 0, true, [], [], [], [], [], 0, 0, 0, 0, 0, 0⟩ := by
    rw [List.getD_eq_getElem?_getD, List.getD_eq_getElem?_getD, List.getElem?_set, if_neg (fun e => hne e.symm)]
   rw [e1]
   congr 1
   unfold mindsA
   exact List.map_congr_left (fun j _ => by rw [hat, upd_ne (by omega)])
 ·refine (list_set ?_ (fun j hj2 hne => ?_)).symm
  ·unfold xtOf
   rw [hj, hat]
   rfl
  ·unfold xtOf
   rw [hat, hh _ (by omega)]
   congr 2
   unfold upd
   split
   ·rename_i e; rw [e, ho _ (by omega), atN_of hs]
   ·rfl
end

end Go.Proofs.YtnoeiocbmhkmeaaGreat
