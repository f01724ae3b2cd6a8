/- Layer 2: how the best value turns with the task (mathematics). -/
import Derived.Test.YtcojionipffanabCMath
namespace Go.Proofs.Ytcojionipffanab

/-- The best value is the least table that has what it needs. -/
theorem mst_le_of {bs : List Bl} {W H : Nat} (F : Nat → Nat → Int) (h0 : ∀ w h, 0 ≤ F w h)
    (hb : ∀ b ∈ bs, ∀ w h : Nat, 1 ≤ w → 1 ≤ h → w ≤ W → h ≤ H → fitsB b w h = true → b.2.2 ≤ F w h)
    (hx : ∀ a b h : Nat, 1 ≤ a → 1 ≤ b → 1 ≤ h → F a h + F b h ≤ F (a + b) h)
    (hy : ∀ w a b : Nat, 1 ≤ w → 1 ≤ a → 1 ≤ b → F w a + F w b ≤ F w (a + b)) :
    ∀ n w h : Nat, w + h ≤ n → w ≤ W → h ≤ H → mst bs w h ≤ F w h
  | 0, w, h, hn, _, _ => by rw [mst_zero bs (by omega)]; exact h0 _ _
  | n + 1, w, h, hn, hw, hh => by
    by_cases e : w = 0 ∨ h = 0
    · rw [mst_zero bs e]; exact h0 _ _
    · rw [mst_eq bs (by omega) (by omega)]
      unfold needT
      have q1 : blT bs w h bs.length ≤ F w h := blT_le bs w h (h0 _ _) _ (fun i hi hf => by
        have e1 : bl bs i ∈ bs := by
          unfold bl
          rw [List.getD_eq_getElem?_getD, List.getElem?_eq_getElem hi]
          exact List.getElem_mem hi
        exact hb _ e1 w h (by omega) (by omega) hw hh hf)
      have q2 : cutT (fun x => mst bs x h) w w ≤ F w h := cutT_le _ _ (h0 _ _) _ (fun x a b => by
        have r1 := mst_le_of F h0 hb hx hy n x h (by omega) (by omega) hh
        have r2 := mst_le_of F h0 hb hx hy n (w - x) h (by omega) (by omega) hh
        have r3 := hx x (w - x) h a (by omega) (by omega)
        rw [show x + (w - x) = w by omega] at r3
        show mst bs x h + mst bs (w - x) h ≤ F w h
        omega)
      have q3 : cutT (fun y => mst bs w y) h h ≤ F w h := cutT_le _ _ (h0 _ _) _ (fun y a b => by
        have r1 := mst_le_of F h0 hb hx hy n w y (by omega) hw (by omega)
        have r2 := mst_le_of F h0 hb hx hy n w (h - y) (by omega) hw (by omega)
        have r3 := hy w y (h - y) (by omega) a (by omega)
        rw [show y + (h - y) = h by omega] at r3
        show mst bs w y + mst bs w (h - y) ≤ F w h
        omega)
      omega

theorem mst_has {bs : List Bl} {b : Bl} (hb : b ∈ bs) {w h : Nat} (hw : 1 ≤ w) (hh : 1 ≤ h) (hf : fitsB b w h = true) : b.2.2 ≤ mst bs w h := by
  obtain ⟨i, hi, e⟩ := List.getElem_of_mem hb
  have e1 : bl bs i = b := by
    unfold bl
    rw [List.getD_eq_getElem?_getD, List.getElem?_eq_getElem hi, e]; rfl
  have := blT_ge bs w h bs.length i hi (by rw [e1]; exact hf)
  rw [e1] at this
  rw [mst_eq bs hw hh]; unfold needT; omega
theorem mst_x (bs : List Bl) {a b h : Nat} (ha : 1 ≤ a) (hb : 1 ≤ b) (hh : 1 ≤ h) : mst bs a h + mst bs b h ≤ mst bs (a + b) h := by
  rw [mst_eq bs (show 1 ≤ a + b by omega) hh]
  have := cutT_ge (fun x => mst bs x h) (a + b) (a + b) a ha (by omega)
  try dsimp only at this
  rw [show a + b - a = b by omega] at this
  unfold needT; omega
theorem mst_y (bs : List Bl) {w a b : Nat} (hw : 1 ≤ w) (ha : 1 ≤ a) (hb : 1 ≤ b) : mst bs w a + mst bs w b ≤ mst bs w (a + b) := by
  rw [mst_eq bs hw (show 1 ≤ a + b by omega)]
  have := cutT_ge (fun y => mst bs w y) (a + b) (a + b) a ha (by omega)
  try dsimp only at this
  rw [show a + b - a = b by omega] at this
  unfold needT; omega
theorem mst_x0 (bs : List Bl) (a b h : Nat) : mst bs a h + mst bs b h ≤ mst bs (a + b) h := by
  by_cases eh : h = 0
  · rw [mst_zero bs (Or.inr eh), mst_zero bs (Or.inr eh), mst_zero bs (Or.inr eh)]; omega
  by_cases ea : a = 0
  · subst ea; rw [mst_zero bs (Or.inl rfl), Nat.zero_add]; omega
  by_cases eb : b = 0
  · subst eb; rw [mst_zero bs (w := 0) (Or.inl rfl), Nat.add_zero]; omega
  exact mst_x bs (by omega) (by omega) (by omega)
theorem mst_y0 (bs : List Bl) (w a b : Nat) : mst bs w a + mst bs w b ≤ mst bs w (a + b) := by
  by_cases eh : w = 0
  · rw [mst_zero bs (Or.inl eh), mst_zero bs (Or.inl eh), mst_zero bs (Or.inl eh)]; omega
  by_cases ea : a = 0
  · subst ea; rw [mst_zero bs (h := 0) (Or.inr rfl), Nat.zero_add]; omega
  by_cases eb : b = 0
  · subst eb; rw [mst_zero bs (h := 0) (Or.inr rfl), Nat.add_zero]; omega
  exact mst_y bs (by omega) (by omega) (by omega)
/-- A wider or higher sheet is not worth less. -/
theorem mst_mono (bs : List Bl) {a b c d : Nat} (h1 : a ≤ c) (h2 : b ≤ d) : mst bs a b ≤ mst bs c d := by
  have q1 := mst_x0 bs a (c - a) b
  have q2 := mst_y0 bs c b (d - b)
  rw [show a + (c - a) = c by omega] at q1
  rw [show b + (d - b) = d by omega] at q2
  have := mst_nonneg bs (c - a) b
  have := mst_nonneg bs c (d - b)
  omega
/-- More blanks are not worth less. -/
theorem mst_more {bs bs' : List Bl} (h : ∀ b ∈ bs, b ∈ bs') (w k : Nat) : mst bs w k ≤ mst bs' w k :=
  mst_le_of (W := w) (H := k) (mst bs') (fun _ _ => mst_nonneg _ _ _) (fun b hb _ _ h1 h2 _ _ hf => mst_has (h b hb) h1 h2 hf) (fun _ _ _ h1 h2 h3 => mst_x bs' h1 h2 h3) (fun _ _ _ h1 h2 h3 => mst_y bs' h1 h2 h3) (w + k) w k (Nat.le_refl _) (Nat.le_refl _) (Nat.le_refl _)
/-- A blank that does not fit leaves the worth unchanged. -/
theorem mst_unfit {bs : List Bl} {b : Bl} {w k : Nat} (h : fitsB b w k = false) : mst (bs ++ [b]) w k = mst bs w k := by
  apply Int.le_antisymm
  · refine mst_le_of (W := w) (H := k) (mst bs) (fun _ _ => mst_nonneg _ _ _) (fun c hc x y h1 h2 h3 h4 hf => ?_) (fun _ _ _ h1 h2 h3 => mst_x bs h1 h2 h3) (fun _ _ _ h1 h2 h3 => mst_y bs h1 h2 h3) (w + k) w k (Nat.le_refl _) (Nat.le_refl _) (Nat.le_refl _)
    rcases List.mem_append.1 hc with hc | hc
    · exact mst_has hc h1 h2 hf
    · obtain rfl : c = b := by simpa using hc
      have q := (fitsB_iff _ _ _).1 hf
      have : fitsB c w k = true := (fitsB_iff _ _ _).2 (by omega)
      rw [h] at this; cases this
  · exact mst_more (fun c hc => List.mem_append_left _ hc) w k
/-- A blank with its sides changed about. -/
def trB (b : Bl) : Bl := (b.2.1, b.1, b.2.2)
theorem mst_tr_le {bs bs' : List Bl} (h : ∀ b ∈ bs, trB b ∈ bs') (w k : Nat) : mst bs w k ≤ mst bs' k w :=
  mst_le_of (W := w) (H := k) (fun x y => mst bs' y x) (fun _ _ => mst_nonneg _ _ _)
    (fun b hb x y h1 h2 _ _ hf => mst_has (b := trB b) (h b hb) h2 h1 ((fitsB_iff _ _ _).2 (by have := (fitsB_iff _ _ _).1 hf; simp only [trB]; omega)))
    (fun _ _ _ h1 h2 h3 => mst_y bs' h3 h1 h2) (fun _ _ _ h1 h2 h3 => mst_x bs' h2 h3 h1) (w + k) w k (Nat.le_refl _) (Nat.le_refl _) (Nat.le_refl _)
/-- The task with the sides of all changed about, the blanks the other way round. -/
theorem mst_tr (bs : List Bl) (w k : Nat) : mst (bs.reverse.map trB) k w = mst bs w k := by
  apply Int.le_antisymm
  · refine mst_tr_le (fun b hb => ?_) k w
    obtain ⟨c, hc, rfl⟩ := List.mem_map.1 hb
    exact List.mem_reverse.1 hc
  · exact mst_tr_le (fun b hb => List.mem_map.2 ⟨b, List.mem_reverse.2 hb, rfl⟩) w k
/-- All values times k. -/
theorem mst_rich (bs : List Bl) {k : Int} (hk : 1 ≤ k) (w h : Nat) : mst (bs.map fun b => (b.1, b.2.1, k * b.2.2)) w h = k * mst bs w h := by
  generalize hr : (bs.map fun b => (b.1, b.2.1, k * b.2.2)) = rs
  apply Int.le_antisymm
  · refine mst_le_of (W := w) (H := h) (fun x y => k * mst bs x y) (fun _ _ => Int.mul_nonneg (by omega) (mst_nonneg _ _ _)) (fun b hb x y h1 h2 _ _ hf => ?_) (fun a b c h1 h2 h3 => ?_) (fun a b c h1 h2 h3 => ?_) (w + h) w h (Nat.le_refl _) (Nat.le_refl _) (Nat.le_refl _)
    · rw [← hr] at hb
      obtain ⟨c, hc, rfl⟩ := List.mem_map.1 hb
      exact Int.mul_le_mul_of_nonneg_left (mst_has hc h1 h2 hf) (by omega)
    · rw [← Int.mul_add]; exact Int.mul_le_mul_of_nonneg_left (mst_x bs h1 h2 h3) (by omega)
    · rw [← Int.mul_add]; exact Int.mul_le_mul_of_nonneg_left (mst_y bs h1 h2 h3) (by omega)
  · have key : mst bs w h ≤ mst rs w h / k := by
      have flo : ∀ a b c : Int, a + b ≤ c → a / k + b / k ≤ c / k := fun a b c habc => by
        rw [Int.le_ediv_iff_mul_le (by omega), Int.add_mul]
        have := Int.ediv_mul_le a (show k ≠ 0 by omega)
        have := Int.ediv_mul_le b (show k ≠ 0 by omega)
        omega
      refine mst_le_of (W := w) (H := h) (fun x y => mst rs x y / k) (fun _ _ => Int.ediv_nonneg (mst_nonneg _ _ _) (by omega)) (fun b hb x y h1 h2 _ _ hf => ?_) (fun a b c h1 h2 h3 => flo _ _ _ (mst_x rs h1 h2 h3)) (fun a b c h1 h2 h3 => flo _ _ _ (mst_y rs h1 h2 h3)) (w + h) w h (Nat.le_refl _) (Nat.le_refl _) (Nat.le_refl _)
      rw [Int.le_ediv_iff_mul_le (by omega), Int.mul_comm]
      exact mst_has (bs := rs) (b := (b.1, b.2.1, k * b.2.2)) (by rw [← hr]; exact List.mem_map.2 ⟨b, hb, rfl⟩) h1 h2 hf
    rw [Int.le_ediv_iff_mul_le (by omega), Int.mul_comm] at key
    exact key
/-- All sides times k. -/
theorem mst_large {bs : List Bl} (hp : ∀ b ∈ bs, 1 ≤ b.1 ∧ 1 ≤ b.2.1) {k : Nat} (hk : 1 ≤ k) (w h : Nat) : mst (bs.map fun b => ((k : Int) * b.1, (k : Int) * b.2.1, b.2.2)) (k * w) (k * h) = mst bs w h := by
  generalize hr : (bs.map fun b => ((k : Int) * b.1, (k : Int) * b.2.1, b.2.2)) = rs
  apply Int.le_antisymm
  · have flo : ∀ a b : Nat, a / k + b / k ≤ (a + b) / k := fun a b => by
      rw [Nat.le_div_iff_mul_le (by omega), Nat.add_mul]
      have := Nat.div_mul_le_self a k
      have := Nat.div_mul_le_self b k
      omega
    have key := mst_le_of (bs := rs) (W := k * w) (H := k * h) (fun x y => mst bs (x / k) (y / k)) (fun _ _ => mst_nonneg _ _ _) (fun b hb x y h1 h2 _ _ hf => by
      rw [← hr] at hb
      obtain ⟨c, hc, rfl⟩ := List.mem_map.1 hb
      obtain ⟨f1, f2⟩ := (fitsB_iff _ _ _).1 hf
      dsimp only at f1 f2 ⊢
      have g1 : c.1 ≤ ((x / k : Nat) : Int) := by
        rw [Int.natCast_ediv, Int.le_ediv_iff_mul_le (by omega), Int.mul_comm]; exact f1
      have g2 : c.2.1 ≤ ((y / k : Nat) : Int) := by
        rw [Int.natCast_ediv, Int.le_ediv_iff_mul_le (by omega), Int.mul_comm]; exact f2
      have hs := hp c hc
      exact mst_has hc (by omega) (by omega) ((fitsB_iff _ _ _).2 ⟨g1, g2⟩))
      (fun a b c _ _ _ => Int.le_trans (mst_x0 bs _ _ _) (mst_mono bs (flo a b) (Nat.le_refl _)))
      (fun a b c _ _ _ => Int.le_trans (mst_y0 bs _ _ _) (mst_mono bs (Nat.le_refl _) (flo b c)))
      (k * w + k * h) (k * w) (k * h) (Nat.le_refl _) (Nat.le_refl _) (Nat.le_refl _)
    rw [Nat.mul_div_cancel_left _ (by omega), Nat.mul_div_cancel_left _ (by omega)] at key
    exact key
  · refine mst_le_of (W := w) (H := h) (fun x y => mst rs (k * x) (k * y)) (fun _ _ => mst_nonneg _ _ _) (fun b hb x y h1 h2 _ _ hf => ?_) (fun a b c h1 h2 h3 => ?_) (fun a b c h1 h2 h3 => ?_) (w + h) w h (Nat.le_refl _) (Nat.le_refl _) (Nat.le_refl _)
    · obtain ⟨f1, f2⟩ := (fitsB_iff _ _ _).1 hf
      refine mst_has (bs := rs) (b := ((k : Int) * b.1, (k : Int) * b.2.1, b.2.2)) (by rw [← hr]; exact List.mem_map.2 ⟨b, hb, rfl⟩) (Nat.mul_pos hk h1) (Nat.mul_pos hk h2) ((fitsB_iff _ _ _).2 ?_)
      dsimp only
      rw [Int.natCast_mul, Int.natCast_mul]
      exact ⟨Int.mul_le_mul_of_nonneg_left f1 (by omega), Int.mul_le_mul_of_nonneg_left f2 (by omega)⟩
    · rw [Nat.mul_add]; exact mst_x0 rs _ _ _
    · rw [Nat.mul_add]; exact mst_y0 rs _ _ _

end Go.Proofs.Ytcojionipffanab
