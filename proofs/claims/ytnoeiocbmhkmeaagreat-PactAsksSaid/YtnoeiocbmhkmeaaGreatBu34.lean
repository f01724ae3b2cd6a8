/- Layer 5: the reference's Crash and Tick, a transaction at a time. -/
import Derived.Test.YtnoeiocbmhkmeaaGreatBu27
namespace Go.Proofs.YtnoeiocbmhkmeaaGreat
set_option linter.unusedSimpArgs false
set_option maxRecDepth 100000
set_option maxHeartbeats 80000000

def craP (X : XN) (a : Int) (j : Nat) : XN := { xSet X a true with txs := (X.txs.take j).map (xShut a) ++ X.txs.drop j }
section
variable {X : XN} {a : Int}
theorem craP_zero : craP X a 0 = xSet X a true := by
 unfold craP
 simp [xSet]
theorem craP_all {j : Nat} (h : X.txs.length ≤ j) : craP X a j = xCra X a := by
 unfold craP xCra
 rw [List.take_of_length_le h, List.drop_of_length_le h, List.append_nil]
theorem craP_at {j : Nat} {t : XT} (ht : X.txs[j]? = some t) : xTx (craP X a j) ((j : Int) + 1) = t := by
 have hj := (List.getElem?_eq_some_iff.1 ht).1
 unfold xTx craP
 dsimp only
 rw [show ((j : Int) + 1 - 1).toNat = j by omega, List.getD_eq_getElem?_getD, List.getElem?_append_right (by rw [List.length_map, List.length_take]; omega), List.length_map, List.length_take, List.getElem?_drop, show j + (j - min j X.txs.length) = j by omega, ht]
 rfl
theorem craP_step {j : Nat} {t : XT} (ht : X.txs[j]? = some t) : craP X a (j + 1) = if t.at5 = a ∧ t.is = 1 then xTurn (craP X a j) ((j : Int) + 1) 0 else craP X a j := by
 have hj := (List.getElem?_eq_some_iff.1 ht).1
 have hd : X.txs.drop j = t :: X.txs.drop (j + 1) := by
  rw [List.drop_eq_getElem_cons hj]
  congr 1
  rw [List.getElem?_eq_getElem hj] at ht
  injection ht
 have e1 : (X.txs.take (j + 1)).map (xShut a) ++ X.txs.drop (j + 1) = (X.txs.take j).map (xShut a) ++ xShut a t :: X.txs.drop (j + 1) := by
  rw [List.take_add_one, ht, Option.toList_some, List.map_append, List.append_assoc]
  rfl
 have hl : ((X.txs.take j).map (xShut a)).length = j := by rw [List.length_map, List.length_take]; omega
 split
 ·rename_i h
  have hs : xShut a t = { t with is := 0, heard := List.replicate t.parts.length false } := by unfold xShut; rw [if_pos h]
  unfold xTurn
  rw [craP_at ht]
  unfold craP
  dsimp only
  rw [e1, hd, hs, show ((j : Int) + 1 - 1).toNat = j by omega, List.set_append_right _ _ (by omega), hl, Nat.sub_self, List.set_cons_zero]
 ·rename_i h
  have hs : xShut a t = t := by unfold xShut; rw [if_neg h]
  unfold craP
  rw [e1, hd, hs]
theorem craP_state {j : Nat} {t : XT} (ht : X.txs[j]? = some t) : (xState (craP X a j) a ((j : Int) + 1) = 1) ↔ (t.at5 = a ∧ t.is = 1) := by
 unfold xState
 rw [craP_at ht]
 constructor
 ·intro h
  split at h
  ·rename_i e; exact ⟨e, h⟩
  ·cases h
 ·rintro ⟨e, h⟩
  rw [if_pos e, h]
theorem XLe.set (h : XLe X) (s : Int) (d : Bool) : XLe (xSet X s d) := h.setSite _ _ (fun hj => xSite_mi h hj)
end
def tik1 (X : XN) (a : Int) (j : Nat) : List Ml := (numsT j).flatMap (fun t => if xState X a t = 1 then xTellL (xTx X t) a 1 t (-1) true else [])
def tik2 (X : XN) (a : Int) (j : Nat) : List Ml := (numsT j).flatMap (fun t => if xState X a t = 2 then xTellL (xTx X t) a 4 t (-1) true else [])
def tik3 (X : XN) (a : Int) (j : Nat) : List Ml := (numsT j).flatMap (fun t => if (xMindAt X a t).1 = 1 then [(a, (xMindAt X a t).2.1, 7, t, 0)] else [])
section
variable {X : XN} {a : Int}
theorem numsT_succ (j : Nat) : numsT (j + 1) = numsT j ++ [(j : Int) + 1] := by
 unfold numsT
 rw [List.range_succ, List.map_append]
 rfl
theorem tik1_succ (j : Nat) : tik1 X a (j + 1) = tik1 X a j ++ (if xState X a ((j : Int) + 1) = 1 then xTellL (xTx X ((j : Int) + 1)) a 1 ((j : Int) + 1) (-1) true else []) := by
 unfold tik1
 rw [numsT_succ, List.flatMap_append]
 simp
theorem tik2_succ (j : Nat) : tik2 X a (j + 1) = tik2 X a j ++ (if xState X a ((j : Int) + 1) = 2 then xTellL (xTx X ((j : Int) + 1)) a 4 ((j : Int) + 1) (-1) true else []) := by
 unfold tik2
 rw [numsT_succ, List.flatMap_append]
 simp
theorem tik3_succ (j : Nat) : tik3 X a (j + 1) = tik3 X a j ++ (if (xMindAt X a ((j : Int) + 1)).1 = 1 then [(a, (xMindAt X a ((j : Int) + 1)).2.1, 7, (j : Int) + 1, 0)] else []) := by
 unfold tik3
 rw [numsT_succ, List.flatMap_append]
 simp
theorem fold_same (l : List Ml) : ∀ (n : XN), (l.foldl xSend n).txs = n.txs ∧ (l.foldl xSend n).sites = n.sites := by
 induction l with
 | nil => intro n; exact ⟨rfl, rfl⟩
 | cons m r ih =>
   intro n
   rw [List.foldl_cons]
   obtain ⟨h1, h2⟩ := ih (xSend n m)
   rw [h1, h2]
   unfold xSend
   split <;> exact ⟨rfl, rfl⟩
theorem fold_at (l : List Ml) (a t : Int) : xState (l.foldl xSend X) a t = xState X a t ∧ xTx (l.foldl xSend X) t = xTx X t ∧ xMindAt (l.foldl xSend X) a t = xMindAt X a t := by
 have h := fold_same l X
 unfold xState xMindAt xTx xSite
 rw [h.1, h.2]
 exact ⟨rfl, rfl, rfl⟩
theorem fold_len (l : List Ml) : (l.foldl xSend X).sites.length = X.sites.length ∧ (l.foldl xSend X).txs.length = X.txs.length := by
 have h := fold_same l X
 rw [h.1, h.2]
 exact ⟨rfl, rfl⟩
theorem xTik_eq : xTik X a = (tik1 X a X.txs.length ++ tik2 X a X.txs.length ++ tik3 X a X.txs.length).foldl xSend X := rfl
theorem tell_fold (l : List Ml) (fr kd tx but : Int) (b : Bool) : xTell (l.foldl xSend X) fr kd tx but b = (l ++ xTellL (xTx X tx) fr kd tx but b).foldl xSend X := by
 unfold xTell
 rw [(fold_at l 0 tx).2.1, List.foldl_append]
theorem send_fold (l : List Ml) (m : Ml) : xSend (l.foldl xSend X) m = (l ++ [m]).foldl xSend X := by
 rw [List.foldl_append]
 rfl
end

end Go.Proofs.YtnoeiocbmhkmeaaGreat
