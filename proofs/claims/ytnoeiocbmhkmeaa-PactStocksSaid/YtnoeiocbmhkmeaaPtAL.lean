/- Layer 5: New and Begin, in plain words; the probe. -/
import Derived.Test.YtnoeiocbmhkmeaaPtAK
import Derived.Test.YtnoeiocbmhkmeaaPtO
namespace Go.Proofs.Ytnoeiocbmhkmeaa
open Go.RowKit
set_option linter.unusedSimpArgs false

theorem Rd.ch {α : Type} {k : Nat} {enc : α → List Value} {S : List Nat} {w w' : World} {g off : Nat} {xs : List α} (h : Rd k enc w (some ⟨g, off, none⟩) xs) (hc : Ch S w w') (hn : g ∉ S) (hlt : g < w.heap.size) : Rd k enc w' (some ⟨g, off, none⟩) xs := fun i x hx => by
  obtain ⟨b, o, e, hcell⟩ := h i x hx
  injection e with e
  injection e with e1 e2
  refine ⟨b, o, by rw [e1, e2], fun j v hv => ?_⟩
  have h2 := hcell j v hv
  have hb := hc.block g hlt hn
  rw [← e1] at h2 ⊢
  exact (World.cell?_of_block hb).trans h2
/-- A net that has just been made. -/
def nw (i : Nat) (x : Int) : Sx := ⟨i, x, true, [], [], [], [], [], 0, 0, 0, 0, 0, 0⟩
def newN (l : List Int) : Nx := ⟨l.zipIdx.map (fun p => nw p.2 p.1), [], 0, 0, .slice none 0 0, .slice none 0 0⟩
theorem NewS.nz {i : Nat} {x : Int} {s : Sx} (h : NewS i x s) : nz s = nw i x := by
  obtain ⟨num, stock, up, prom, kept, drop, opn, grt, p, mp, mq, mr, mo, mg⟩ := s
  obtain ⟨h1, h2, h3, h4, h5, h6, h7, h8⟩ := h
  dsimp only at h1 h2 h3 h4 h5 h6 h7 h8
  subst h1 h2 h3 h4 h5 h6 h7 h8
  rfl
theorem newN_of {l : List Int} {N : Nx} (h : NewL l N.sites) (hm : N.mail = []) (hb : N.begun = 0) : nzN N = newN l := by
  unfold nzN newN
  rw [hm, hb]
  congr 1
  apply List.ext_getElem?
  intro k
  rw [List.getElem?_map, List.getElem?_map]
  by_cases hk : k < l.length
  · have h1 : l[k]? = some (l[k]'hk) := List.getElem?_eq_getElem _
    have h2 : N.sites[k]? = some (N.sites[k]'(by rw [h.1]; exact hk)) := List.getElem?_eq_getElem _
    have h3 := h.2 k _ _ h2 h1
    rw [h2, List.getElem?_zipIdx, h1]
    simp only [Option.map_some, Nat.zero_add]
    rw [h3.nz]
  · rw [List.getElem?_eq_none (by rw [h.1]; omega), List.getElem?_eq_none (by simp; omega)]
    rfl
theorem newN_len (l : List Int) : (newN l).sites.length = l.length := by unfold newN; simp
theorem newN_site {l : List Int} {k : Nat} {x : Int} (h : l[k]? = some x) : (newN l).sites[k]? = some (nw k x) := by
  unfold newN
  rw [List.getElem?_map, List.getElem?_zipIdx, h]
  simp
theorem newN_ok {l : List Int} (h : okStocks l = true) : OkN (newN l) := by
  have h1 := (okStocks_iff l).1 h
  refine ⟨by rw [newN_len]; exact h1.1, by rw [newN_len]; exact h1.2.1, by unfold newN; dsimp only; omega, fun k s hs => ?_, by unfold newN; simp, fun m hm => by unfold newN at hm; simp at hm⟩
  have hk : k < l.length := by
    have := (List.getElem?_eq_some_iff.1 hs).1
    rw [newN_len] at this
    exact this
  have h2 : l[k]? = some (l[k]'hk) := List.getElem?_eq_getElem _
  have h3 := h1.2.2 _ (List.mem_of_getElem? h2)
  rw [newN_site h2] at hs
  injection hs with hs
  subst hs
  rw [newN_len]
  refine ⟨⟨by unfold nw; dsimp only; omega, ?_, ?_, List.Pairwise.nil, fun _ he => (by cases he), List.Pairwise.nil, fun _ he => (by cases he), List.Pairwise.nil, fun _ he => (by cases he), fun _ he => (by cases he)⟩, rfl⟩
  · show 0 ≤ l[k] + 0
    omega
  · show l[k] + 0 ≤ 1099511627776
    omega
/-- What Begin answers, and what it makes of a net. -/
def begE (N : Nx) (i : Int) (ps : List Mv) : Int := if refD N i ≠ 0 then refD N i else if okTx N ps = false then 2 else if 256 ≤ N.begun then 5 else 0
def begT (N : Nx) (i : Int) (ps : List Mv) : Int := if begE N i ps = 0 then N.begun + 1 else 0
def begI (N : Nx) (i : Int) (ps : List Mv) : Nx := if begE N i ps = 0 then begN N i.toNat ps else N
theorem begE_nz (N : Nx) (i : Int) (ps : List Mv) : begE (nzN N) i ps = begE N i ps := by unfold begE; rw [refD_nz, okTx_nz]; rfl
theorem begT_nz (N : Nx) (i : Int) (ps : List Mv) : begT (nzN N) i ps = begT N i ps := by unfold begT; rw [begE_nz]; rfl
theorem begI_nz (N : Nx) (i : Int) (ps : List Mv) : begI (nzN N) i ps = if begE N i ps = 0 then nzN (begN N i.toNat ps) else nzN N := by unfold begI; rw [begE_nz, begN_nz]
def BeginP (B : Nat) (w : World) (N : Nx) (i : Int) (ps : List Mv) (e : Ending) (w' : World) : Prop :=
  e = .returned (.tuple #[.int .i64 (begT N i ps), .int .i64 (begE N i ps)]) ∧ ∃ N', nzN N' = begI (nzN N) i ps ∧ NetTo B w N N' w'
theorem Begin_all {B : Nat} {N : Nx} (i : Int) (A : Option Addr) (n c : Nat) (ps : List Mv) (w : World) (h : NetR B w N) (ho : OkN (nzN N)) (hn : ps.length = n) (hl : n ≤ 512)
    (hp : ∀ W, Ch (ownB N) w W → Pts W A ps) (hI : ∀ p ∈ ps, I64 p.1) :
    Calls Try.prog 15 #[.pointer (some ⟨N.p, 0, none⟩), .int .i64 i, .slice A n c] w (BeginP B w N i ps) := by
  have hnew : ∀ s ∈ N.sites, mget s.opn (N.begun + 1) = none := fun s hs => by
    obtain ⟨k, hk⟩ := List.mem_iff_getElem?.1 hs
    have h1 := (ho.site k _ (nz_site hk)).1
    have h2 : mget (dzs s.opn) (N.begun + 1) = none := mget_none.2 (fun p hp e => by
      have h3 := (h1.opn p hp).1.2
      have : p.1 ≤ N.begun := h3
      omega)
    rw [mget_dz] at h2
    simpa using h2
  refine (Begin_any i A n c ps w h (by rw [← nz_len]; exact ho.hi) ho.room ho.beg.1 hn hl hp hI hnew).mono ?_
  rintro e w' (⟨h1, rfl, hg⟩ | ⟨h1, h2, rfl, hg⟩ | ⟨h1, h2, h3, rfl, hg⟩ | ⟨h1, h2, h3, rfl, k, s, d, N', rfl, hk, hd1, hd2, h4, h5, h6, h7⟩)
  · have hE : begE N i ps = refD N i := by unfold begE; rw [if_pos h1]
    refine ⟨?_, N, ?_, NetTo.refl h hg⟩
    · unfold begT; rw [hE, if_neg h1]
    · rw [begI_nz, hE, if_neg h1]
  · have hE : begE N i ps = 2 := by unfold begE; rw [h1, if_neg (by simp), if_pos h2]
    refine ⟨?_, N, ?_, NetTo.refl h hg⟩
    · unfold begT; rw [hE]; rfl
    · rw [begI_nz, hE]; rfl
  · have hE : begE N i ps = 5 := by unfold begE; rw [h1, if_neg (by simp), if_neg (by simp [h2]), if_pos h3]
    refine ⟨?_, N, ?_, NetTo.refl h hg⟩
    · unfold begT; rw [hE]; rfl
    · rw [begI_nz, hE]; rfl
  · have hE : begE N (k : Int) ps = 0 := by unfold begE; rw [h1, if_neg (by simp), if_neg (by simp [h2]), if_neg (by omega)]
    refine ⟨?_, N', ?_, h7⟩
    · unfold begT; rw [hE]; rfl
    · rw [begI_nz, hE, if_pos rfl, show ((k : Int)).toNat = k from rfl]
      unfold begN
      rw [hk]
      dsimp only
      obtain ⟨ss, ml, bg, p, sv, lv⟩ := N'
      dsimp only at h4 h5 h6
      subst h4 h5 h6
      rw [nz_set, nz_set]
      congr 2
      unfold nz dzs
      simp only [List.map_append]
      obtain ⟨dp, dm, db, dc, dg⟩ := d
      dsimp only at hd1 hd2
      subst hd1 hd2
      rfl
/-- The probe's net, step by step. -/
def seqV : Nat → Nx
  | 0 => begI (newN [10, 0]) 0 [(0, -4), (1, 4)]
  | i + 1 => delN (seqV i) 0
theorem seq_ok : ∀ i, OkN (seqV i)
  | 0 => by
    have h : begI (newN [10, 0]) 0 [(0, -4), (1, 4)] = begN (newN [10, 0]) 0 [(0, -4), (1, 4)] := by rfl
    show OkN (begI (newN [10, 0]) 0 [(0, -4), (1, 4)])
    rw [h]
    exact begN_ok (newN_ok (by decide)) (s := nw 0 10) rfl (by rfl) (by decide)
  | i + 1 => delN_ok (seq_ok i) 0
theorem seq_some : ∀ i, i < 8 → (seqV i).mail ≠ [] := by
  intro i hi
  have : i = 0 ∨ i = 1 ∨ i = 2 ∨ i = 3 ∨ i = 4 ∨ i = 5 ∨ i = 6 ∨ i = 7 := by omega
  rcases this with rfl | rfl | rfl | rfl | rfl | rfl | rfl | rfl <;> (intro h; exact absurd (congrArg List.length h) (by decide))
theorem seq_none : (seqV 8).mail = [] := by rfl
theorem seq_end : stockN (seqV 8) 0 = 6 ∧ stockN (seqV 8) 1 = 4 ∧ settledN (seqV 8) = true ∧ refS (seqV 8) 0 = 0 ∧ refS (seqV 8) 1 = 0 := ⟨by rfl, by rfl, by rfl, by rfl, by rfl⟩

end Go.Proofs.Ytnoeiocbmhkmeaa
