/- Moving all points: what does not change. Plain mathematics. -/
import Derived.Test.YtcojionipffanacHullE
import Derived.Test.YtcojionipffanacMeet
import Derived.Test.YtcojionipffanacInside
namespace Go.Proofs.Ytcojionipffanac
open Go.RowKit

/-- A point moved. -/
def tr (d p : Int × Int) : Int × Int := (p.1 + d.1, p.2 + d.2)
theorem crs_tr (ax ay bx by_ cx cy u v : Int) : crs (ax + u) (ay + v) (bx + u) (by_ + v) (cx + u) (cy + v) = crs ax ay bx by_ cx cy := by unfold crs; grind
theorem cr_tr (d a b c : Int × Int) : cr (tr d a) (tr d b) (tr d c) = cr a b c := crs_tr _ _ _ _ _ _ _ _
theorem tri_tr (d a b c : Int × Int) : tri (tr d a) (tr d b) (tr d c) = tri a b c := by
  have h := cr_tr d a b c
  unfold cr at h
  unfold tri; rw [h]
theorem lt_tr {d a b : Int × Int} : lt2 (tr d a) (tr d b) ↔ lt2 a b := by unfold lt2 tr; dsimp only; omega
theorem tr_inj {d a b : Int × Int} (h : tr d a = tr d b) : a = b := by
  unfold tr at h
  have h1 := congrArg Prod.fst h
  have h2 := congrArg Prod.snd h
  dsimp only at h1 h2
  exact Prod.ext (by omega) (by omega)
theorem popR_tr (d p : Int × Int) : ∀ l, popR (tr d p) (l.map (tr d)) = (popR p l).map (tr d)
  | [] => rfl
  | [_] => rfl
  | b :: a :: r => by
    have ih := popR_tr d p (a :: r)
    simp only [List.map_cons] at ih ⊢
    unfold popR
    rw [tri_tr]
    split
    · rfl
    · exact ih
theorem chainR_tr (d : Int × Int) : ∀ (ps st : List (Int × Int)), chainR (st.map (tr d)) (ps.map (tr d)) = (chainR st ps).map (tr d)
  | [], st => rfl
  | p :: ps, st => by
    have ih := chainR_tr d ps (p :: popR p st)
    simp only [List.map_cons] at ih ⊢
    rw [chainR, popR_tr, ih, chainR]
theorem chainL_tr (d : Int × Int) (ps : List (Int × Int)) : chainL (ps.map (tr d)) = (chainL ps).map (tr d) := by
  unfold chainL
  rw [List.map_reverse, ← chainR_tr]; rfl
theorem sdL_tr (d : Int × Int) (ps : List (Int × Int)) : sdL (ps.map (tr d)) = (sdL ps).map (tr d) := by
  refine rise_ext _ _ (sdL_rise _) ?_ (fun x => ?_)
  · rw [List.pairwise_map]; exact (sdL_rise ps).imp (fun h => lt_tr.2 h)
  · rw [mem_sdL, List.mem_map, List.mem_map]
    constructor
    · rintro ⟨a, ha, e⟩; exact ⟨a, (mem_sdL ps a).2 ha, e⟩
    · rintro ⟨a, ha, e⟩; exact ⟨a, (mem_sdL ps a).1 ha, e⟩
/-- The corners of a set that is moved are the corners, moved. -/
theorem cornersL_tr (d : Int × Int) (ps : List (Int × Int)) : cornersL (ps.map (tr d)) = (cornersL ps).map (tr d) := by
  unfold cornersL
  rw [sdL_tr, List.length_map]
  split
  · rfl
  · rw [← List.map_reverse, chainL_tr, chainL_tr, List.map_append, List.map_dropLast, List.map_dropLast]
theorem sqP_tr (d a b : Int × Int) : sqP (tr d a) (tr d b) = sqP a b := by unfold sqP sqd tr; grind
theorem getD_map {d : Int × Int} {l : List (Int × Int)} {i : Nat} (h : i < l.length) : (l.map (tr d)).getD i (0, 0) = tr d (l.getD i (0, 0)) := by
  rw [List.getD_eq_getElem?_getD, List.getD_eq_getElem?_getD, List.getElem?_map, List.getElem?_eq_getElem h]; rfl
theorem IsMax.tr {d : Int × Int} {l : List (Int × Int)} {v : Int} (h : IsMax l v) : IsMax (l.map (tr d)) v := by
  obtain ⟨h1, p, hp, q, hq, e⟩ := h
  refine ⟨fun a ha b hb => ?_, _, List.mem_map_of_mem hp, _, List.mem_map_of_mem hq, by rw [sqP_tr]; exact e⟩
  obtain ⟨a', ha', rfl⟩ := List.mem_map.1 ha
  obtain ⟨b', hb', rfl⟩ := List.mem_map.1 hb
  rw [sqP_tr]; exact h1 a' ha' b' hb'
theorem widest_tr (d : Int × Int) {l : List (Int × Int)} (h : 1 ≤ l.length) : widestL (cornersL (l.map (tr d))) = widestL (cornersL l) := by
  have hl := (cornersL_len l h).1
  rw [cornersL_tr]
  exact IsMax.unique (widest_max (by rw [List.length_map]; exact hl)) (widest_max hl).tr
theorem ed_tr {d : Int × Int} {l : List (Int × Int)} {i : Nat} (h : i < l.length) : ed (l.map (tr d)) i = (tr d (ed l i).1, tr d (ed l i).2) := by
  unfold ed
  rw [List.length_map, getD_map h, getD_map (Nat.mod_lt _ (by omega))]
/-- The double area does not move. -/
theorem arT_tr (d : Int × Int) (l : List (Int × Int)) : ∀ k, k ≤ l.length → 0 < l.length → arT (l.map (tr d)) k = arT l k + d.1 * ((l.getD (k % l.length) (0, 0)).2 - (l.getD 0 (0, 0)).2) - d.2 * ((l.getD (k % l.length) (0, 0)).1 - (l.getD 0 (0, 0)).1)
  | 0, _, _ => by simp [arT]
  | k + 1, hk, h0 => by
    have ih := arT_tr d l k (by omega) h0
    rw [Nat.mod_eq_of_lt (by omega : k < l.length)] at ih
    unfold arT
    rw [ih, ed_tr (by omega)]
    unfold ed tr
    dsimp only
    generalize l.getD k (0, 0) = p
    generalize l.getD ((k + 1) % l.length) (0, 0) = q
    generalize l.getD 0 (0, 0) = z
    grind
theorem area_tr (d : Int × Int) (l : List (Int × Int)) : areaL (l.map (tr d)) = areaL l := by
  unfold areaL
  rw [List.length_map]
  cases l with
  | nil => rfl
  | cons a l =>
    have h := arT_tr d (a :: l) (a :: l).length (Nat.le_refl _) (by simp)
    rw [Nat.mod_self] at h
    rw [h]; simp
theorem touch_tr (ax ay bx by_ cx cy dx dy u v : Int) : touchL (ax + u) (ay + v) (bx + u) (by_ + v) (cx + u) (cy + v) (dx + u) (dy + v) = touchL ax ay bx by_ cx cy dx dy := by
  rw [Bool.eq_iff_iff, touch_iff, touch_iff, crs_tr, crs_tr, crs_tr, crs_tr]
  omega
theorem folds_tr (ax ay bx by_ cx cy u v : Int) : foldsL (ax + u) (ay + v) (bx + u) (by_ + v) (cx + u) (cy + v) = foldsL ax ay bx by_ cx cy := by
  unfold foldsL
  rw [crs_tr, show ax + u - (bx + u) = ax - bx by omega, show cx + u - (bx + u) = cx - bx by omega, show ay + v - (by_ + v) = ay - by_ by omega, show cy + v - (by_ + v) = cy - by_ by omega]
theorem ray_tr (ax ay bx by_ px py u v : Int) : rayL (ax + u) (ay + v) (bx + u) (by_ + v) (px + u) (py + v) = rayL ax ay bx by_ px py := by
  unfold rayL
  rw [crs_tr, show decide (py + v < ay + v) = decide (py < ay) from by congr 1; apply propext; omega, show decide (py + v < by_ + v) = decide (py < by_) from by congr 1; apply propext; omega, show decide (ay + v < by_ + v) = decide (ay < by_) from by congr 1; apply propext; omega]
theorem touchE_tr {d : Int × Int} {l : List (Int × Int)} {i j : Nat} (hi : i < l.length) (hj : j < l.length) : touchE (ed (l.map (tr d)) i) (ed (l.map (tr d)) j) = touchE (ed l i) (ed l j) := by
  rw [ed_tr hi, ed_tr hj]; exact touch_tr _ _ _ _ _ _ _ _ _ _
theorem badE_tr {d : Int × Int} {l : List (Int × Int)} {i : Nat} (hi : i < l.length) : badE (l.map (tr d)) i = badE l i := by
  unfold badE
  rw [List.length_map, ed_tr hi, ed_tr (Nat.mod_lt _ (by omega))]
  dsimp only
  rw [show decide (tr d (ed l i).1 = tr d (ed l i).2) = decide ((ed l i).1 = (ed l i).2) from by congr 1; exact propext ⟨tr_inj, fun h => by rw [h]⟩]
  congr 1
  exact folds_tr _ _ _ _ _ _ _ _
/-- A simple polygon, moved within the bounds, is one. -/
theorem simple_tr {d : Int × Int} {l : List (Int × Int)} (h1 : (l.all fun p => vld p.1 p.2) = true) (h2 : ((l.map (tr d)).all fun p => vld p.1 p.2) = true) : SimpleP (l.map (tr d)) ↔ SimpleP l := by
  unfold SimpleP CrossP
  rw [List.length_map, h1, h2]
  constructor
  · rintro ⟨a, b, -, c, e⟩
    refine ⟨a, b, rfl, fun i hi => by rw [← badE_tr (d := d) hi]; exact c i hi, ?_⟩
    rintro ⟨i, j, k1, k2, k3, k4⟩
    exact e ⟨i, j, k1, k2, k3, by rw [touchE_tr (by omega) k2]; exact k4⟩
  · rintro ⟨a, b, -, c, e⟩
    refine ⟨a, b, rfl, fun i hi => by rw [badE_tr hi]; exact c i hi, ?_⟩
    rintro ⟨i, j, k1, k2, k3, k4⟩
    exact e ⟨i, j, k1, k2, k3, by rw [← touchE_tr (d := d) (by omega) k2]; exact k4⟩
theorem plT_tr (d : Int × Int) (l : List (Int × Int)) (x y : Int) : ∀ k, k ≤ l.length → plT (l.map (tr d)) (x + d.1) (y + d.2) k = plT l x y k
  | 0, _ => rfl
  | k + 1, hk => by
    have ih := plT_tr d l x y k (by omega)
    unfold plT
    rw [ih, show rayE (l.map (tr d)) (x + d.1) (y + d.2) k = rayE l x y k from by unfold rayE; rw [ed_tr (by omega)]; exact ray_tr _ _ _ _ _ _ _ _]
theorem inside_tr (d : Int × Int) (l : List (Int × Int)) (x y : Int) : insideL (l.map (tr d)) (x + d.1) (y + d.2) = insideL l x y := by
  unfold insideL
  rw [List.length_map, plT_tr d l x y _ (Nat.le_refl _)]
  have e : (List.range l.length).any (onE (l.map (tr d)) (x + d.1) (y + d.2)) = (List.range l.length).any (onE l x y) := by
    rw [Bool.eq_iff_iff, List.any_eq_true, List.any_eq_true]
    have k : ∀ i, i ∈ List.range l.length → onE (l.map (tr d)) (x + d.1) (y + d.2) i = onE l x y i := fun i hi => by
      unfold onE
      rw [ed_tr (by simpa using hi)]
      exact touch_tr _ _ _ _ _ _ _ _ _ _
    constructor
    · rintro ⟨i, hi, h⟩; exact ⟨i, hi, by rw [← k i hi]; exact h⟩
    · rintro ⟨i, hi, h⟩; exact ⟨i, hi, by rw [k i hi]; exact h⟩
  rw [e]

end Go.Proofs.Ytcojionipffanac
