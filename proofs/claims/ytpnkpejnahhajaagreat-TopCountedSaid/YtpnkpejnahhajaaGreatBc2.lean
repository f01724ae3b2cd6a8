/- Layer 3: the shortest recurrence (mathematics of Berlekamp and Massey).
Layer 3: the product of two elements.
Layer 3: the tables of powers and logarithms.
Layer 3: products, quotients, values of polynomials. -/
import Derived.Test.YtpnkpejnahhajaaGreatBc1
import Derived.Test.YtpnkpejnahhajaaGreatBc0
namespace Go.Proofs.YtpnkpejnahhajaaGreat

/-- the sum of two lists, the shorter one filled up -/
def addP : List G → List G → List G
  | [], b => b
  | a :: r, [] => a :: r
  | a :: r, b :: t => (a + b) :: addP r t
theorem addP_nil (a : List G) : addP a [] = a := by cases a <;> rfl
theorem addP_len : ∀ a b : List G, (addP a b).length = max a.length b.length
  | [], b => by simp [addP]
  | a :: r, [] => by simp [addP]
  | a :: r, b :: t => by simp [addP, addP_len r t]
theorem dsum_addP (s : Nat → G) : ∀ (a b : List G) (t : Nat), dsum (addP a b) s t = dsum a s t + dsum b s t
  | [], b, t => (gzero_add _).symm
  | a :: r, [], t => (gadd_zero _).symm
  | a :: r, b :: u, t => by
    cases t with
    | zero => exact gadd_mul _ _ _
    | succ t => simp only [addP, dsum, dsum_addP s r u t, gadd_mul]; exact gpair _ _ _ _
theorem dsum_scale (s : Nat → G) (k : G) (a : List G) : ∀ t, dsum (a.map (k * ·)) s t = k * dsum a s t := by
  induction a with
  | nil => intro t; exact (gmul_zero _).symm
  | cons c r ih =>
    intro t
    cases t with
    | zero => exact gmul_assoc _ _ _
    | succ t => simp only [List.map_cons, dsum, ih, gmul_add, gmul_assoc]
/-- What the search for a recurrence has. -/
structure Bm where
  now : List G
  bef : List G
  deg : Nat
/-- One step of it. -/
def bmStep (s : Nat → G) (at_ : Nat) (m : Bm) : Bm :=
  if dsum m.now s at_ = g0 then ⟨m.now, g0 :: m.bef, m.deg⟩
  else if 2 * m.deg ≤ at_ then ⟨addP m.now ((g0 :: m.bef).map (dsum m.now s at_ * ·)), m.now.map (ginv (dsum m.now s at_) * ·), at_ + 1 - m.deg⟩
  else ⟨addP m.now ((g0 :: m.bef).map (dsum m.now s at_ * ·)), g0 :: m.bef, m.deg⟩
def bmL (s : Nat → G) : Nat → Bm
  | 0 => ⟨[g1], [g1], 0⟩
  | n + 1 => bmStep s n (bmL s n)
/-- The search's invariant at n, for any recurrence of at most e that holds below N. -/
structure BmI (s : Nat → G) (e n : Nat) (m : Bm) : Prop where
  head : m.now.head? = some g1
  len : m.now.length ≤ m.deg + 1
  blen : m.bef.length + m.deg ≤ n + 1
  deg : m.deg ≤ n
  few : m.deg ≤ e
  gen : ∀ t, m.deg ≤ t → t < n → dsum m.now s t = g0
  bgen : m.deg = 0 ∨ (dsum (g0 :: m.bef) s n = g1 ∧ ∀ t, n + 1 - m.deg ≤ t → t < n → dsum (g0 :: m.bef) s t = g0)
theorem dsum_zcons (b : List G) (s : Nat → G) (t : Nat) : dsum (g0 :: b) s (t + 1) = dsum b s t := by
  simp only [dsum, gzero_mul, gzero_add]
theorem addP_head {a b : List G} (h : a.head? = some g1) (h0 : ∀ c, b.head? = some c → c = g0) : (addP a b).head? = some g1 := by
  cases a with
  | nil => cases h
  | cons x r =>
    obtain rfl := Option.some.inj h
    cases b with
    | nil => rfl
    | cons y t =>
      obtain rfl := h0 y rfl
      simp [addP, gadd_zero]
/-- A recurrence that holds below n and not at n, and one that holds: together they are longer than n. -/
theorem massey {a l : List G} {s : Nat → G} {L e n : Nat} (hl : l.head? = some g1) (hle : l.length ≤ e + 1) (ha : a.length ≤ L + 1)
    (hgl : ∀ t, e ≤ t → t ≤ n → dsum l s t = g0) (hga : ∀ t, L ≤ t → t < n → dsum a s t = g0) (hn : dsum a s n ≠ g0) : n < L + e := by
  refine Nat.lt_of_not_le fun hLe => hn ?_
  -- all of the sums with l are 0
  have z : ∀ (q : List G) (u : Nat → G) (t k : Nat), q.length ≤ k + 1 → k ≤ t → (∀ i, t - k ≤ i → i ≤ t → u i = g0) → dsum q u t = g0 := by
    intro q
    induction q with
    | nil => intro u t k _ _ _; rfl
    | cons c r ih =>
      intro u t k h1 h2 h3
      cases t with
      | zero => simp only [dsum, h3 0 (by omega) (by omega), gmul_zero]
      | succ t =>
        simp only [dsum, h3 (t + 1) (by omega) (by omega), gmul_zero, gzero_add]
        cases k with
        | zero =>
          obtain rfl : r = [] := (by simpa using h1)
          rfl
        | succ k => exact ih u t k (by simp at h1; omega) (by omega) (fun i h4 h5 => h3 i (by omega) (by omega))
  have h1 : dsum a (dsum l s) n = g0 := z a _ n L ha (by omega) (fun i h4 h5 => hgl i (by omega) h5)
  rw [dsum_swap] at h1
  cases l with
  | nil => cases hl
  | cons c r =>
    obtain rfl := Option.some.inj hl
    cases n with
    | zero => simpa only [dsum, gone_mul] using h1
    | succ n =>
      have h2 : dsum r (dsum a s) n = g0 := by
        cases e with
        | zero =>
          obtain rfl : r = [] := (by simpa using hle)
          rfl
        | succ e => exact z r _ n e (by simp at hle; omega) (by omega) (fun i h4 h5 => hga i (by omega) (by omega))
      have h3 : dsum (g1 :: r) (dsum a s) (n + 1) = dsum a s (n + 1) + dsum r (dsum a s) n := by simp only [dsum, gone_mul]
      rw [h3, h2, gadd_zero] at h1
      exact h1
theorem bm_inv {s : Nat → G} {e N : Nat} {l : List G} (hl : l.head? = some g1) (hle : l.length ≤ e + 1) (hgl : ∀ t, e ≤ t → t < N → dsum l s t = g0) :
    ∀ n, n ≤ N → BmI s e n (bmL s n)
  | 0, _ => ⟨rfl, by simp [bmL], by simp [bmL], Nat.le_refl _, Nat.zero_le _, fun t _ h => absurd h (Nat.not_lt_zero _), Or.inl rfl⟩
  | n + 1, h => by
    have I := bm_inv hl hle hgl n (by omega)
    rw [bmL]
    generalize bmL s n = m at I
    have hb := I.blen
    have hd := I.deg
    have hln := I.len
    unfold bmStep
    by_cases hz : dsum m.now s n = g0
    · rw [if_pos hz]
      refine ⟨I.head, I.len, by simp; omega, by show m.deg ≤ n + 1; omega, I.few, fun t h1 h2 => ?_, ?_⟩
      · by_cases e1 : t = n
        · rw [e1]; exact hz
        · exact I.gen t h1 (by omega)
      · rcases I.bgen with h0 | ⟨h1, h2⟩
        · exact Or.inl h0
        · refine Or.inr ⟨by rw [dsum_zcons]; exact h1, fun t h3 h4 => ?_⟩
          dsimp only at h3
          cases t with
          | zero => simp only [dsum, gzero_mul]
          | succ t => rw [dsum_zcons]; exact h2 t (by omega) (by omega)
    · rw [if_neg hz]
      have hhead : (addP m.now ((g0 :: m.bef).map (dsum m.now s n * ·))).head? = some g1 := addP_head I.head (fun c hc => by
        simp only [List.map_cons, List.head?_cons, Option.some.injEq] at hc
        rw [← hc, gmul_zero])
      have hlen : (addP m.now ((g0 :: m.bef).map (dsum m.now s n * ·))).length = max m.now.length (m.bef.length + 1) := by rw [addP_len]; simp
      by_cases h2 : 2 * m.deg ≤ n
      · rw [if_pos h2]
        have hmas : n < m.deg + e := massey hl hle I.len (fun t h3 h4 => hgl t h3 (by omega)) I.gen hz
        refine ⟨hhead, by rw [hlen]; dsimp only; omega, by simp; omega, by dsimp only; omega, by dsimp only; omega, fun t h3 h4 => ?_, Or.inr ⟨?_, fun t h3 h4 => ?_⟩⟩
        · dsimp only at h3
          rw [dsum_addP, dsum_scale]
          rcases I.bgen with h0 | ⟨h5, h6⟩
          · omega
          · by_cases e1 : t = n
            · subst e1; rw [h5, gmul_one, gadd_self]
            · rw [I.gen t (by omega) (by omega), h6 t (by omega) (by omega), gmul_zero, gadd_zero]
        · rw [dsum_zcons, dsum_scale, gmul_comm]; exact gmul_inv hz
        · dsimp only at h3
          cases t with
          | zero => simp only [dsum, gzero_mul]
          | succ t => rw [dsum_zcons, dsum_scale, I.gen t (by omega) (by omega), gmul_zero]
      · rw [if_neg h2]
        have hb2 : dsum (g0 :: m.bef) s n = g1 ∧ ∀ t, n + 1 - m.deg ≤ t → t < n → dsum (g0 :: m.bef) s t = g0 := by
          rcases I.bgen with h0 | h0
          · omega
          · exact h0
        refine ⟨hhead, by rw [hlen]; dsimp only; omega, by simp; omega, by dsimp only; omega, I.few, fun t h3 h4 => ?_, Or.inr ⟨by rw [dsum_zcons]; exact hb2.1, fun t h3 h4 => ?_⟩⟩
        · dsimp only at h3
          rw [dsum_addP, dsum_scale]
          by_cases e1 : t = n
          · subst e1; rw [hb2.1, gmul_one, gadd_self]
          · rw [I.gen t (by omega) (by omega), hb2.2 t (by omega) (by omega), gmul_zero, gadd_zero]
        · dsimp only at h3
          cases t with
          | zero => simp only [dsum, gzero_mul]
          | succ t => rw [dsum_zcons]; exact hb2.2 t (by omega) (by omega)
/-- Without any recurrence known: the lengths alone. -/
theorem bm_len {s : Nat → G} (n : Nat) : (bmL s n).now.head? = some g1 ∧ (bmL s n).now.length ≤ (bmL s n).deg + 1 ∧ (bmL s n).bef.length + (bmL s n).deg ≤ n + 1 ∧ (bmL s n).deg ≤ n := by
  induction n with
  | zero => exact ⟨rfl, by simp [bmL], by simp [bmL], Nat.le_refl _⟩
  | succ n ih =>
    rw [bmL]
    generalize bmL s n = m at ih
    obtain ⟨h1, h2, h3, h4⟩ := ih
    have hhead : (addP m.now ((g0 :: m.bef).map (dsum m.now s n * ·))).head? = some g1 := addP_head h1 (fun c hc => by
      simp only [List.map_cons, List.head?_cons, Option.some.injEq] at hc
      rw [← hc, gmul_zero])
    have hlen : (addP m.now ((g0 :: m.bef).map (dsum m.now s n * ·))).length = max m.now.length (m.bef.length + 1) := by rw [addP_len]; simp
    unfold bmStep
    split
    · exact ⟨h1, h2, by simp; omega, by dsimp only; omega⟩
    · split
      · exact ⟨hhead, by rw [hlen]; dsimp only; omega, by simp; omega, by dsimp only; omega⟩
      · exact ⟨hhead, by rw [hlen]; dsimp only; omega, by simp; omega, by dsimp only; omega⟩
/-- The places of few errors are the roots of what is found. -/
theorem bm_roots {E : List (G × G)} {N : Nat} (hd : (E.map (·.1)).Nodup) (hy : ∀ a ∈ E, a.2 ≠ g0) (hx : ∀ a ∈ E, a.1 ≠ g0) (hN : 2 * E.length ≤ N) (s : Nat → G) (hs : ∀ t, t < N → s t = pws E t) (x : G) :
    val (bmL s N).now x = g0 ↔ x ∈ E.map (·.1) := by
  have hloc : ∀ t, E.length ≤ t → t < N → dsum (rootP (E.map (·.1))) s t = g0 := fun t h1 h2 => by
    rw [dsum_congr _ _ (fun i hi => hs i (by omega)), dsum_es _ _ _ (by rw [rootP_len]; simp; omega)]
    refine es_none fun a ha => ?_
    rw [rootP_val, prodR_root (List.mem_map.2 ⟨a, ha, rfl⟩), gzero_mul, gmul_zero]
  have I := bm_inv (s := s) (e := E.length) (N := N) (rootP_head _) (by rw [rootP_len]; simp) hloc N (Nat.le_refl _)
  generalize bmL s N = m at I
  have hl := I.len
  have hf := I.few
  -- each place is a root
  have hroot : ∀ a ∈ E, val m.now a.1 = g0 := fun a ha => by
    have hz := no_errors (E := E.map (fun b => (b.1, b.2 * (val m.now b.1 * gw b.1 (m.deg + 1 - m.now.length))))) (by rw [List.map_map]; exact hd) (fun t ht => by
      rw [List.length_map] at ht
      have h1 := I.gen (m.deg + t) (by omega) (by omega)
      rw [dsum_congr _ _ (fun i hi => hs i (by omega)), dsum_es _ _ _ (by omega)] at h1
      rw [← h1]
      unfold pws
      clear h1
      have hg : ∀ F : List (G × G), es (F.map (fun b => (b.1, b.2 * (val m.now b.1 * gw b.1 (m.deg + 1 - m.now.length))))) (fun x => gw x t) = es F (fun x => val m.now x * gw x (m.deg + t + 1 - m.now.length)) := by
        intro F
        induction F with
        | nil => rfl
        | cons b r ih =>
          obtain ⟨x, y⟩ := b
          simp only [List.map_cons, es, ih]
          rw [show m.deg + t + 1 - m.now.length = (m.deg + 1 - m.now.length) + t by omega, gw_add]
          simp only [gmul_assoc]
      exact hg E) (a.1, a.2 * (val m.now a.1 * gw a.1 (m.deg + 1 - m.now.length))) (List.mem_map.2 ⟨a, ha, rfl⟩)
    rcases gmul_eq0 hz with e | e
    · exact absurd e (hy a ha)
    · rcases gmul_eq0 e with e | e
      · exact e
      · exact absurd e (gw_pos (hx a ha) _)
  constructor
  · intro hv
    refine Decidable.byContradiction fun hn => ?_
    have := few_roots _ m.now (x :: E.map (·.1)) rfl I.head (List.nodup_cons.2 ⟨hn, hd⟩) (fun z hz => by
      rcases List.mem_cons.1 hz with e | e
      · rw [e]; exact hv
      · obtain ⟨a, ha, rfl⟩ := List.mem_map.1 e
        exact hroot a ha)
    simp at this
    omega
  · intro hm
    obtain ⟨a, ha, rfl⟩ := List.mem_map.1 hm
    exact hroot a ha

end Go.Proofs.YtpnkpejnahhajaaGreat

namespace Go.Proofs.YtpnkpejnahhajaaGreat
open Go.RowKit
set_option linter.unusedSimpArgs false

theorem i64_xor_nat (a b : Nat) (ha : a < 1048576) (hb : b < 1048576) : bits .xor .i64 (a : Int) (b : Int) = ((a ^^^ b : Nat) : Int) := by
  have hx : a ^^^ b < 2 ^ 20 := Nat.xor_lt_two_pow (by omega) (by omega)
  have e : ∀ x : Nat, x < 1048576 → (BitVec.ofInt 64 (x : Int)).toNat = x := fun x h => by
    rw [BitVec.ofInt_natCast, BitVec.toNat_ofNat]; exact Nat.mod_eq_of_lt (by omega)
  show IntKind.i64.wrap ((BitVec.ofInt 64 (a : Int) ^^^ BitVec.ofInt 64 (b : Int)).toNat : Int) = _
  rw [BitVec.toNat_xor, e a ha, e b hb]
  exact IntWalk.i64_in _ (by omega)
/-- the lowest k places' part of a product, from above -/
theorem mulF_top : ∀ (k a b : Nat), mulF (k + 1) a b = mulF k a b ^^^ (if b / 2 ^ k % 2 = 1 then it k a else 0)
  | 0, a, b => by simp [mulF, it]
  | k + 1, a, b => by
    rw [mulF, mulF_top k, mulF, Nat.xor_assoc]
    congr 2
    have e : b / 2 / 2 ^ k = b / 2 ^ (k + 1) := by rw [Nat.div_div_eq_div_mul, Nat.pow_succ, Nat.mul_comm]
    have e2 : it k (xt a) = it (k + 1) a := by rw [show xt a = it 1 a from rfl, ← it_add]
    rw [e, e2]

theorem bit_test (b k : Nat) (hb : b < 256) : (bits .and .u8 ((b : Int) / 2 ^ k) 1 == 1) = decide (b / 2 ^ k % 2 = 1) := by
  have e : ((b : Int) / 2 ^ k) = ((b / 2 ^ k : Nat) : Int) := by rw [Int.natCast_ediv, Int.natCast_pow]; rfl
  have hlt : b / 2 ^ k < 256 := Nat.lt_of_le_of_lt (Nat.div_le_self _ _) hb
  rw [e, show (1 : Int) = ((1 : Nat) : Int) from rfl, u8_and_nat _ 1 hlt (by omega), Nat.and_one_is_mod]
  rw [Bool.eq_iff_iff]
  simp only [beq_iff_eq, decide_eq_true_eq]
  omega

set_option maxRecDepth 100000 in
set_option maxHeartbeats 1000000 in
theorem Mul_any (a b : Nat) (ha : a < 256) (hb : b < 256) (w : World) : Calls Tryz.prog 93 #[.int .u8 (a : Int), .int .u8 (b : Int)] w fun e w' => e = .returned (.int .u8 (mulN a b : Int)) ∧ w' = w := by
  go_enter Tryz.func93, Tryz.ntmps93
  go_wp2_with fail
  go_loop [5, 6, 10] (fun p s z => ∃ k : Nat, k ≤ 8 ∧ z = .int .i64 k ∧ p = .int .i64 (mulF k a b : Int) ∧ s = .int .i64 (it k a : Int)) (fun _ _ z => 8 - (intOf z).toNat)
  case atStart => exact ⟨0, by omega, rfl, rfl, rfl⟩
  case round =>
    obtain ⟨k, hk, rfl, rfl, rfl⟩ := hrel
    by_cases hlt : k < 8
    · have HT := Lib.hid (mulF_top k a b)
      have hp := mulF_lt k b ha
      have hs := it_lt k ha
      have HS : Hid (it (k + 1) a = xt (it k a)) := Lib.hid rfl
      generalize mulF k a b = p at hp HT ⊢
      generalize it k a = s at hs HT HS ⊢
      have x1 := i64_xor_nat p s (by omega) (by omega)
      have x2 : bits .xor .i64 ((s : Int) * 2) 285 = ((2 * s ^^^ 285 : Nat) : Int) := by
        have := i64_xor_nat (2 * s) 285 (by omega) (by omega)
        rw [show ((s : Int) * 2) = ((2 * s : Nat) : Int) by omega]; exact this
      have hbt := bit_test b k hb
      by_cases hbit : b / 2 ^ k % 2 = 1
      all_goals
        first | rw [decide_eq_true hbit] at hbt | rw [decide_eq_false hbit] at hbt
        first | rw [if_pos hbit] at HT | rw [if_neg hbit] at HT
        by_cases h2 : 255 < 2 * s
        all_goals
          have hs2 : Hid (xt s = if 255 < 2 * s then 2 * s ^^^ 285 else 2 * s) := Lib.hid rfl
          first | rw [if_pos h2] at hs2 | rw [if_neg h2] at hs2
          clear hbit
          go_wp2_with fail
          go_round
          case rel => exact ⟨k + 1, by omega, by go_num, by rw [HT.out]; first | done | rfl | simp, by rw [HS.out, hs2.out]; first | done | rfl | go_num | exact vint8 (by omega)⟩
          case measure => simp [intOf] <;> omega
    · obtain rfl : k = 8 := by omega
      have hp := mulF_lt 8 b ha
      have HP : Hid (mulN a b = mulF 8 a b) := Lib.hid rfl
      generalize mulF 8 a b = p at hp HP ⊢
      go_wp2_with fail
      go_ret
      exact ⟨by rw [HP.out]; first | rfl | (congr 1), rfl⟩

end Go.Proofs.YtpnkpejnahhajaaGreat

namespace Go.Proofs.YtpnkpejnahhajaaGreat
open Go.RowKit
set_option linter.unusedSimpArgs false

set_option maxRecDepth 1000000 in
theorem zero_tables : Tryz.zeroCells175 = Array.replicate 255 (.int .u8 0) ++ Array.replicate 256 (.int .i64 0) := by kernel_rfl
/-- Tables filled up to k. -/
def TabB (cs : Array Value) (k : Nat) : Prop := cs.size = 511 ∧ (∀ i, i < k → cs[i]? = some (.int .u8 (pw i : Int))) ∧ ∀ i, i < k → cs[255 + pw i]? = some (.int .i64 (i : Int))
theorem TabB.next {cs : Array Value} {k : Nat} (h : TabB cs k) (hk : k < 255) : TabB ((cs.setIfInBounds k (.int .u8 (pw k : Int))).setIfInBounds (255 + pw k) (.int .i64 (k : Int))) (k + 1) := by
  obtain ⟨h1, h2, h3⟩ := h
  have hp := pw_lt k
  refine ⟨by simp [h1], fun i hi => ?_, fun i hi => ?_⟩
  · rw [Array.getElem?_setIfInBounds_ne (by omega)]
    by_cases e : i = k
    · subst e; rw [Array.getElem?_setIfInBounds_self_of_lt (by omega)]
    · rw [Array.getElem?_setIfInBounds_ne (by omega)]; exact h2 i (by omega)
  · by_cases e : i = k
    · subst e; rw [Array.getElem?_setIfInBounds_self_of_lt (by simp [h1]; omega)]
    · have hne : pw i ≠ pw k := fun h => e (pw_inj (by omega) hk h)
      rw [Array.getElem?_setIfInBounds_ne (by omega), Array.getElem?_setIfInBounds_ne (by omega)]; exact h3 i (by omega)
/-- The tables at T. -/
def Tabs (T : Nat) (w : World) : Prop := (∀ i, i < 255 → w.cell? ⟨T, i, none⟩ = some (.int .u8 ((gp i).v : Int))) ∧ ∀ a : G, a ≠ g0 → w.cell? ⟨T, 255 + a.v, none⟩ = some (.int .i64 (glog a : Int))
theorem Tabs.keep {T : Nat} {w w' : World} (h : Tabs T w) (hg : Gr w w') : Tabs T w' := ⟨fun i hi => hg.keep (h.1 i hi), fun a ha => hg.keep (h.2 a ha)⟩
theorem Tabs.of {T : Nat} {t : TypeId} {w : World} {cs : Array Value} (hb : Blk w T t cs) (h : TabB cs 255) : Tabs T w := by
  obtain ⟨h1, h2, h3⟩ := h
  refine ⟨fun i hi => by rw [hb.cell]; exact h2 i hi, fun a ha => ?_⟩
  obtain ⟨h4, h5⟩ := glog_spec ha
  have := h3 _ h4
  rw [show pw (glog a) = a.v from congrArg G.v h5] at this
  rw [hb.cell]; exact this

set_option maxRecDepth 100000 in
set_option maxHeartbeats 1000000 in
theorem newTables_any (w : World) : Calls Tryz.prog 56 #[] w fun e w' => ∃ T, e = .returned (.pointer (some ⟨T, 0, none⟩)) ∧ w.heap.size ≤ T ∧ Tabs T w' ∧ Gr w w' := by
  obtain ⟨S, hS⟩ : ∃ S, w.heap.size = S := ⟨_, rfl⟩
  have hblk : Blk (w.alloc (.cells Tryz.zeroCells175 175)) S 175 Tryz.zeroCells175 := Blk.new _ _ _ hS
  have htab : TabB Tryz.zeroCells175 0 := ⟨by rw [zero_tables]; simp, fun i hi => absurd hi (by omega), fun i hi => absurd hi (by omega)⟩
  have hg0 : Gr w (w.alloc (.cells Tryz.zeroCells175 175)) := (Gr.refl w).alloc _
  have HB := Lib.hid hblk
  have HT := Lib.hid htab
  clear hblk htab
  subst hS
  go_enter Tryz.func56, Tryz.ntmps56
  go_wp2_with fail
  generalize hW0 : World.alloc w _ = W0 at HB hg0
  have HG0 := Lib.hid hg0
  clear hg0 hW0
  go_loopw [2, 6] (fun el z wr => ∃ (k : Nat) (cs : Array Value), k ≤ 255 ∧ z = .int .i64 k ∧ el = .int .u8 (pw k : Int) ∧ Hid (Blk wr w.heap.size 175 cs) ∧ Hid (TabB cs k) ∧ Hid (Gb w.heap.size W0 wr)) (fun _ z _ => 255 - (intOf z).toNat)
  case atStart => exact ⟨0, _, Nat.zero_le _, rfl, rfl, HB, HT, Lib.hid (Gb.refl _ _)⟩
  case round =>
    obtain ⟨k, cs, hk, rfl, rfl, hB, hT, hG⟩ := hrel
    by_cases hlt : k < 255
    · have hp := pw_lt k
      have HM : Hid (mulN (pw k) 2 = pw (k + 1)) := Lib.hid (pw_add k 1)
      have HN := Lib.hid (hT.out.next hlt)
      have hsz := hT.out.1
      obtain ⟨v1, e1⟩ : ∃ v, cs[k]? = some v := ⟨_, Array.getElem?_eq_getElem (by omega)⟩
      obtain ⟨v2, e2⟩ : ∃ v, cs[255 + pw k]? = some v := ⟨_, Array.getElem?_eq_getElem (by omega)⟩
      have c1 := (hB.out.cell k).trans e1
      have c2 := (hB.out.cell (255 + pw k)).trans e2
      have f1 := hB.out.free k
      have f2 := hB.out.free (255 + pw k)
      have HB2 := Lib.hid ((hB.out.put k (.int .u8 (pw k : Int))).put (255 + pw k) (.int .i64 (k : Int)))
      have HG2 := Lib.hid ((hG.out.put k (.int .u8 (pw k : Int))).put (255 + pw k) (.int .i64 (k : Int)))
      clear hsz e1 e2
      generalize pw k = p at hp HM HN c2 f2 HB2 HG2 ⊢
      go_wp2_with fail
      refine (Mul_any p 2 hp (by omega) _).mono ?_
      rintro e w1 ⟨rfl, rfl⟩
      rw [HM.out]
      go_wp2_with fail
      go_roundw
      case rel => exact ⟨k + 1, _, by omega, by go_num, rfl, HB2, HN, HG2⟩
      case measure => simp [intOf] <;> omega
    · obtain rfl : k = 255 := by omega
      go_wp2_with fail
      go_ret
      exact ⟨_, rfl, Nat.le_refl _, Tabs.of hB.out hT.out, hG.out.gr HG0.out (Nat.le_refl _)⟩

end Go.Proofs.YtpnkpejnahhajaaGreat

namespace Go.Proofs.YtpnkpejnahhajaaGreat
open Go.RowKit
set_option linter.unusedSimpArgs false

def encG (g : G) : List Value := [.int .u8 (g.v : Int)]
theorem encG_len (x : G) : (encG x).length = 1 := rfl
theorem encG_one (x : G) : ∀ u ∈ encG x, u.oneCell' = true := by intro u hu; simp [encG] at hu; subst hu; rfl
abbrev Byts := Rd 1 encG
theorem Byts_at {w : World} {A : Option Addr} {ns : List G} (h : Byts w A ns) {i : Nat} (hi : i < ns.length) : ∃ b off, A = some ⟨b, off, none⟩ ∧ w.cell? ⟨b, off + i, none⟩ = some (.int .u8 ((ns.getD i g0).v : Int)) := by
  obtain ⟨b, off, e, hc⟩ := h i _ (getD_of g0 hi)
  have := hc 0 _ rfl
  rw [Nat.mul_one, Nat.add_zero] at this
  exact ⟨b, off, e, this⟩
theorem g_zero_test (a : G) : (((a.v : Nat) : Int) == 0) = decide (a = g0) := by
  rw [Bool.eq_iff_iff]
  simp only [beq_iff_eq, decide_eq_true_eq]
  constructor
  · intro h; exact G.eq (show a.v = 0 by omega)
  · intro h; subst h; rfl

set_option maxRecDepth 100000 in
set_option maxHeartbeats 1000000 in
theorem product_any (T : Nat) (a b : G) (w : World) (hT : Tabs T w) : Calls Tryz.prog 129 #[.pointer (some ⟨T, 0, none⟩), .int .u8 (a.v : Int), .int .u8 (b.v : Int)] w fun e w' => e = .returned (.int .u8 ((a * b).v : Int)) ∧ Gr w w' := by
  have ta := g_zero_test a
  have tb := g_zero_test b
  by_cases ha : a = g0
  · have HV : Hid (a * b = g0) := Lib.hid (by rw [ha, gzero_mul])
    rw [decide_eq_true ha] at ta
    clear ha tb
    go_enter Tryz.func129, Tryz.ntmps129
    go_wp2_with fail
    go_ret
    exact ⟨by rw [HV.out]; rfl, Gr.refl _⟩
  · rw [decide_eq_false ha] at ta
    by_cases hb : b = g0
    · have HV : Hid (a * b = g0) := Lib.hid (by rw [hb, gmul_zero])
      rw [decide_eq_true hb] at tb
      clear ha hb
      go_enter Tryz.func129, Tryz.ntmps129
      go_wp2_with fail
      go_ret
      exact ⟨by rw [HV.out]; rfl, Gr.refl _⟩
    · rw [decide_eq_false hb] at tb
      have HV := Lib.hid (gmul_log ha hb)
      have c1 := hT.2 a ha
      have c2 := hT.2 b hb
      have l1 := (glog_spec ha).1
      have l2 := (glog_spec hb).1
      have hav := a.lt
      have hbv := b.lt
      generalize glog a = x at l1 c1 HV
      generalize glog b = y at l2 c2 HV
      have c3 := hT.1 ((x + y) % 255) (Nat.mod_lt _ (by omega))
      have h1 : IntKind.i64.wrap ((x : Int) + (y : Int)) = (x : Int) + (y : Int) := IntWalk.i64_in _ (by omega)
      have h2 : ((x : Int) + (y : Int)).tmod 255 = (((x + y) % 255 : Nat) : Int) := by rw [Int.tmod_eq_emod_of_nonneg (by omega)]; omega
      have h3 : ((x : Int) + (y : Int)) % 255 = (((x + y) % 255 : Nat) : Int) := by omega
      have h4 : (x + y) % 255 < 255 := Nat.mod_lt _ (by omega)
      generalize (x + y) % 255 = r at c3 h2 h3 h4 HV
      generalize gp r = z at c3 HV
      generalize a * b = ab at HV ⊢
      generalize a.v = av at hav c1 ta ⊢
      generalize b.v = bv at hbv c2 tb ⊢
      have t1 : (0 : Int) ≤ (av : Int) := by omega
      have t2 : (av : Int) < 256 := by omega
      have t3 : (0 : Int) ≤ (bv : Int) := by omega
      have t4 : (bv : Int) < 256 := by omega
      have t5 : (0 : Int) ≤ (r : Int) := by omega
      have t6 : (r : Int) < 255 := by omega
      clear hT ha hb
      go_enter Tryz.func129, Tryz.ntmps129
      go_wp2_with fail
      go_quiet (fail)
      go_wp2_with fail
      go_ret
      exact ⟨by rw [HV.out]; rfl, (Gr.refl _).drewN _⟩

set_option maxRecDepth 100000 in
set_option maxHeartbeats 1000000 in
theorem quotient_any (T : Nat) (a b : G) (w : World) (hT : Tabs T w) (hb : b ≠ g0) : Calls Tryz.prog 108 #[.pointer (some ⟨T, 0, none⟩), .int .u8 (a.v : Int), .int .u8 (b.v : Int)] w fun e w' => e = .returned (.int .u8 ((a * ginv b).v : Int)) ∧ Gr w w' := by
  have ta := g_zero_test a
  by_cases ha : a = g0
  · have HV : Hid (a * ginv b = g0) := Lib.hid (by rw [ha, gzero_mul])
    rw [decide_eq_true ha] at ta
    clear ha
    go_enter Tryz.func108, Tryz.ntmps108
    go_wp2_with fail
    go_ret
    exact ⟨by rw [HV.out]; rfl, Gr.refl _⟩
  · rw [decide_eq_false ha] at ta
    have HV := Lib.hid (gquo_log ha hb)
    have c1 := hT.2 a ha
    have c2 := hT.2 b hb
    have l1 := (glog_spec ha).1
    have l2 := (glog_spec hb).1
    have hav := a.lt
    have hbv := b.lt
    generalize glog a = x at l1 c1 HV
    generalize glog b = y at l2 c2 HV
    have c3 := hT.1 ((x + 255 - y) % 255) (Nat.mod_lt _ (by omega))
    have h0 : IntKind.i64.wrap ((x : Int) + 255) = (x : Int) + 255 := IntWalk.i64_in _ (by omega)
    have h1 : IntKind.i64.wrap ((x : Int) + 255 - (y : Int)) = (x : Int) + 255 - (y : Int) := IntWalk.i64_in _ (by omega)
    have h2 : ((x : Int) + 255 - (y : Int)).tmod 255 = (((x + 255 - y) % 255 : Nat) : Int) := by rw [Int.tmod_eq_emod_of_nonneg (by omega)]; omega
    have h4 : (x + 255 - y) % 255 < 255 := Nat.mod_lt _ (by omega)
    generalize (x + 255 - y) % 255 = r at c3 h2 h4 HV
    generalize gp r = z at c3 HV
    generalize a * ginv b = ab at HV ⊢
    generalize a.v = av at hav c1 ta ⊢
    generalize b.v = bv at hbv c2 ⊢
    have t1 : (0 : Int) ≤ (av : Int) := by omega
    have t2 : (av : Int) < 256 := by omega
    have t3 : (0 : Int) ≤ (bv : Int) := by omega
    have t4 : (bv : Int) < 256 := by omega
    have t5 : (0 : Int) ≤ (r : Int) := by omega
    have t6 : (r : Int) < 255 := by omega
    clear hT ha hb
    go_enter Tryz.func108, Tryz.ntmps108
    go_wp2_with fail
    go_quiet (fail)
    go_wp2_with fail
    go_ret
    exact ⟨by rw [HV.out]; rfl, (Gr.refl _).drewN _⟩

theorem val_take (q : List G) (x : G) {k : Nat} (hk : k < q.length) : val (q.take (k + 1)) x = val (q.take k) x * x + q.getD k g0 := by
  rw [List.take_add_one, getD_of g0 hk, Option.toList_some, val_snoc]
theorem xor8 (a b : G) : bits .xor .u8 (a.v : Int) (b.v : Int) = ((a + b).v : Int) := u8_xor_nat a.v b.v a.lt b.lt

set_option maxRecDepth 100000 in
set_option maxHeartbeats 1000000 in
theorem value_any (T : Nat) (A : Option Addr) (n c : Nat) (q : List G) (x : G) (w : World) (hT : Tabs T w) (hn : q.length = n) (hl : n ≤ 1048576) (hp : Byts w A q) :
    Calls Tryz.prog 109 #[.pointer (some ⟨T, 0, none⟩), .slice A n c, .int .u8 (x.v : Int)] w fun e w' => e = .returned (.int .u8 ((val q x).v : Int)) ∧ Gr w w' := by
  have HN := Lib.hid hn
  have HT := Lib.hid hT
  have HP := Lib.hid hp
  clear hn hT hp
  go_enter Tryz.func109, Tryz.ntmps109
  go_wp2_with fail
  go_loopw [7, 12] (fun s z wr => ∃ k : Nat, k ≤ n ∧ z = .int .i64 k ∧ s = .int .u8 ((val (q.take k) x).v : Int) ∧ Gr w wr) (fun _ z _ => n - (intOf z).toNat)
  case atStart => exact ⟨0, Nat.zero_le _, rfl, rfl, Gr.refl _⟩
  case round =>
    obtain ⟨k, hk, rfl, rfl, hg⟩ := hrel
    by_cases hlt : k < n
    · have hkl : k < q.length := by have := HN.out; omega
      obtain ⟨b, off, rfl, c0⟩ := Byts_at (HP.out.keep hg) hkl
      have HV := Lib.hid (val_take q x hkl)
      generalize q.getD k g0 = y at c0 HV
      generalize val (q.take k) x = s at HV ⊢
      go_wp2_with fail
      refine (product_any T s x _ (HT.out.keep hg)).mono ?_
      rintro e w1 ⟨rfl, hg1⟩
      have hx := xor8 (s * x) y
      go_wp2_with fail
      go_roundw
      case rel => exact ⟨k + 1, by omega, by go_num, by rw [HV.out], hg.trans hg1⟩
      case measure => simp [intOf] <;> omega
    · obtain rfl : k = n := by omega
      have HF : Hid (val (q.take k) x = val q x) := Lib.hid (by rw [List.take_of_length_le (by have := HN.out; omega)])
      rw [HF.out]
      go_wp2_with fail
      go_ret
      exact ⟨rfl, hg⟩

end Go.Proofs.YtpnkpejnahhajaaGreat
