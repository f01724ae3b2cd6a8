/- Layer 5: a site opens a transaction. -/
import Derived.Test.YtnoeiocbmhkmeaaPtL
namespace Go.Proofs.Ytnoeiocbmhkmeaa
open Go.RowKit
open Go.Maps (Keyed)
set_option linter.unusedSimpArgs false

section
variable {α β : Type} {P : Program} {k : TypeId} {K : α → Value} {V : β → Value} {w : World} {g : Nat} {l : List (α × β)}
variable {ops : Array Oper} {o : Oper} {a : Act} {Q : Exit → Act → World → Prop} {Kq : Act → World → Prop} {E : Prop}
theorem held_update [DecidableEq α] (hg : o.guard = none) (m x v : Operand) (t : TypeId) (hop : o.op = Op.mapUpdate t m x v) (h : Mp P k K V w g l) (hK : ∀ a b, K a = K b → a = b) (Kd : Keyed P k) (e : TypeId) (ht : P.underlying t = some (.map k e))
    (b : α) (y : β) (kl : Lit) (hb : keyOf P k (K b) = some kl) (hm : a.eval m = .map (some g)) (hx : a.eval x = K b) (hv : a.eval v = V y) (hd : o.dst = none)
    (hC : ∀ w', Mp P k K V w' g (mput l b y) → Gb g w w' → Kq a w') : if Region.wanted o (yielded ops a.tmps) = true then Oper.wp P o a w Kq Q else E := by
  have hw : Region.wanted o (yielded ops a.tmps) = true := by simp [Region.wanted, hg]
  rw [if_pos hw]
  obtain ⟨w', hrun, r1, r2⟩ := h.store hK Kd ht hb y
  unfold Oper.wp
  simp [execOp, hop, hm, hx, hv, hrun, Result.andThen]
  show Kq (a.put o.dst undef) w'
  rw [hd]
  exact hC w' r1 r2
end
theorem mput_new {α β : Type} [DecidableEq α] {l : List (α × β)} {a : α} (x : β) (h : mget l a = none) : mput l a x = l ++ [(a, x)] := by
  unfold mput; rw [h]; rfl
section
variable {B : Nat} {w w1 w2 w3 : World} {s : Sx}
theorem Its.perm {l m : List (Nat × Ds)} (h : Its B w l) (hp : l.Perm m) : Its B w m :=
  ⟨fun it hm => h.all it (hp.mem_iff.2 hm), ((hp.map Prod.fst).nodup_iff).1 h.nod⟩
theorem Its.base (h : Its B w (siteIt s)) : B ≤ w.heap.size := by
  have := h.lt (g := s.p) (by simp [siteIt, blks])
  omega
theorem Its.ne {l : List (Nat × Ds)} (h : Its B w l) {i j : Nat} (hij : i < j) {x y : Nat × Ds} (hx : l[i]? = some x) (hy : l[j]? = some y) : x.1 ≠ y.1 := by
  have h1 := List.pairwise_iff_getElem.1 h.nod
  obtain ⟨li, ei⟩ := List.getElem?_eq_some_iff.1 hx
  obtain ⟨lj, ej⟩ := List.getElem?_eq_some_iff.1 hy
  have h2 := h1 i j (by simpa [blks] using li) (by simpa [blks] using lj) hij
  unfold blks at h2
  simp only [List.getElem_map] at h2
  rw [ei, ej] at h2
  exact h2
theorem gb_cell5 {g : Nat} {a : Addr} {v : Value} (hb : Gb g w w1) (h : w.cell? a = some v) (hlt : a.block < w.heap.size) (hne : a.block ≠ g) : w1.cell? a = some v := by
  have h1 : w1.heap[a.block]? = w.heap[a.block]? := World.grownBy.block hb a.block hlt (fun e => hne (by injection e))
  exact (World.cell?_of_block h1).trans h
/-- A deal in new memory. -/
structure DlNew (w w1 : World) (ps : List Mv) (d : Dl) : Prop where
  parts : d.parts = ps
  miss : d.miss = missOf ps
  b : w.heap.size ≤ d.b
  g : w.heap.size ≤ d.g
  ne : d.b ≠ d.g
  mv : Holds5 w1 d.b (.moves d.parts)
  bl : Holds5 w1 d.g (.bools d.miss)
theorem DlNew.its {ps : List Mv} {d : Dl} (h : DlNew w w1 ps d) (tx : Int) (hB : B ≤ w.heap.size) : Its B w1 (dlIt (tx, d)) := by
  refine ⟨fun it hm => ?_, ?_⟩
  · simp [dlIt] at hm
    have h1 := h.b
    have h2 := h.g
    rcases hm with rfl | rfl
    · exact ⟨h.mv, by dsimp only; omega⟩
    · exact ⟨h.bl, by dsimp only; omega⟩
  · simp [dlIt, blks, h.ne]
/-- A site opens a transaction. -/
theorem siteOpen {ps : List Mv} {tx : Int} {d : Dl} (h : Its B w (siteIt s)) (hg : Gr w w1) (hd : DlNew w w1 ps d) (hb : Gb s.mo w1 w2) (hm : Mp Try.prog 3 intK dlV w2 s.mo (s.opn ++ [(tx, d)])) : Its B w2 (siteIt { s with opn := s.opn ++ [(tx, d)] }) := by
  have h1 := h.more hg (hd.its tx h.base) (fun g hg' => by
    have e1 := hd.b
    have e2 := hd.g
    simp [dlIt, blks] at hg'
    omega)
  have h2 : Its B w1 (([(s.p, .cells 81 (siteCs s)), (s.mp, .proms s.prom), (s.mq, .bools s.kept), (s.mr, .bools s.drop)] ++ [(s.mo, .deals s.opn)]) ++ ((s.mg, .deals s.grt) :: (s.opn.flatMap dlIt ++ s.grt.flatMap dlIt) ++ dlIt (tx, d))) := by
    unfold siteIt at h1; simpa using h1
  have h3 := h2.turn (D' := .deals (s.opn ++ [(tx, d)])) hb hm
  refine h3.perm ?_
  unfold siteIt
  dsimp only
  rw [List.flatMap_append]
  simp only [List.flatMap_cons, List.flatMap_nil, List.append_nil, List.cons_append, List.nil_append, List.append_assoc]
  refine .cons _ (.cons _ (.cons _ (.cons _ (.cons _ (.cons _ ?_)))))
  exact (List.Perm.append_left _ List.perm_append_comm)
theorem siteGrant {ps : List Mv} {tx : Int} {d : Dl} (h : Its B w (siteIt s)) (hg : Gr w w1) (hd : DlNew w w1 ps d) (hb : Gb s.mg w1 w2) (hm : Mp Try.prog 3 intK dlV w2 s.mg (s.grt ++ [(tx, d)])) : Its B w2 (siteIt { s with grt := s.grt ++ [(tx, d)] }) := by
  have h1 := h.more hg (hd.its tx h.base) (fun g hg' => by
    have e1 := hd.b
    have e2 := hd.g
    simp [dlIt, blks] at hg'
    omega)
  have h2 : Its B w1 (([(s.p, .cells 81 (siteCs s)), (s.mp, .proms s.prom), (s.mq, .bools s.kept), (s.mr, .bools s.drop), (s.mo, .deals s.opn)] ++ [(s.mg, .deals s.grt)]) ++ ((s.opn.flatMap dlIt ++ s.grt.flatMap dlIt) ++ dlIt (tx, d))) := by
    unfold siteIt at h1; simpa using h1
  have h3 := h2.turn (D' := .deals (s.grt ++ [(tx, d)])) hb hm
  have e : siteIt { s with grt := s.grt ++ [(tx, d)] } = ([(s.p, .cells 81 (siteCs s)), (s.mp, .proms s.prom), (s.mq, .bools s.kept), (s.mr, .bools s.drop), (s.mo, .deals s.opn)] ++ [(s.mg, .deals (s.grt ++ [(tx, d)]))]) ++ ((s.opn.flatMap dlIt ++ s.grt.flatMap dlIt) ++ dlIt (tx, d)) := by
    unfold siteIt; simp; rfl
  rw [e]; exact h3
end

theorem siteOpen_blk {s : Sx} {w w1 : World} {ps : List Mv} {tx : Int} {d : Dl} (hd : DlNew w w1 ps d) : ∀ g ∈ blks (siteIt { s with opn := s.opn ++ [(tx, d)] }), g ∈ blks (siteIt s) ∨ w.heap.size ≤ g := fun g hg => by
  have e1 := hd.b
  have e2 := hd.g
  simp only [siteIt, blks, List.flatMap_append, List.flatMap_cons, List.flatMap_nil, List.append_nil, List.map_append, List.mem_append, dlIt, List.map_cons, List.map_nil, List.mem_cons, List.not_mem_nil, or_false] at hg ⊢
  rcases hg with hg | (hg | hg) | hg
  · exact Or.inl (Or.inl hg)
  · exact Or.inl (Or.inr (Or.inl hg))
  · rcases hg with rfl | rfl
    · exact Or.inr e1
    · exact Or.inr e2
  · exact Or.inl (Or.inr (Or.inr hg))
theorem siteGrant_blk {s : Sx} {w w1 : World} {ps : List Mv} {tx : Int} {d : Dl} (hd : DlNew w w1 ps d) : ∀ g ∈ blks (siteIt { s with grt := s.grt ++ [(tx, d)] }), g ∈ blks (siteIt s) ∨ w.heap.size ≤ g := fun g hg => by
  have e1 := hd.b
  have e2 := hd.g
  simp only [siteIt, blks, List.flatMap_append, List.flatMap_cons, List.flatMap_nil, List.append_nil, List.map_append, List.mem_append, dlIt, List.map_cons, List.map_nil, List.mem_cons, List.not_mem_nil, or_false] at hg ⊢
  rcases hg with hg | hg | (hg | hg)
  · exact Or.inl (Or.inl hg)
  · exact Or.inl (Or.inr (Or.inl hg))
  · exact Or.inl (Or.inr (Or.inr hg))
  · rcases hg with rfl | rfl
    · exact Or.inr e1
    · exact Or.inr e2
theorem blk_mo (s : Sx) : s.mo ∈ blks (siteIt s) := by simp [siteIt, blks]
theorem blk_mg (s : Sx) : s.mg ∈ blks (siteIt s) := by simp [siteIt, blks]
/-- What a site's step answers: letters in new memory, and the site as it is then; only its blocks have turned. -/
structure StepP (B : Nat) (w : World) (s s' : Sx) (l : List Ml) (e : Ending) (w' : World) : Prop where
  let5 : ∃ A c, e = .returned (.slice A l.length c) ∧ Rd 5 enc5m w' A l ∧ l.length ≤ c
  its : Its B w' (siteIt s')
  ch : Ch (blks (siteIt s)) w w'
  p : s'.p = s.p
  blk : ∀ g ∈ blks (siteIt s'), g ∈ blks (siteIt s) ∨ w.heap.size ≤ g

set_option maxRecDepth 100000 in
set_option maxHeartbeats 4000000 in
theorem begin5_any {B : Nat} {s : Sx} (tx : Int) (A : Option Addr) (n c : Nat) (ps : List Mv) (w : World) (h : Its B w (siteIt s)) (htx : I64 tx) (hnew : mget s.opn tx = none) (hn : ps.length = n) (hl : n ≤ 512) (h0 : 1 ≤ n) (hp : ∀ W, Ch (blks (siteIt s)) w W → Pts W A ps) (hI : ∀ p ∈ ps, I64 p.1) :
    Calls Try.prog 43 #[.pointer (some ⟨s.p, 0, none⟩), .int .i64 tx, .slice A n c] w (fun e w' => ∃ d : Dl, d.parts = ps ∧ d.miss = missOf ps ∧ StepP B w s { s with opn := s.opn ++ [(tx, d)] } (wrL s 1 tx ps) e w') := by
  have n6 := h.sCells.2.2.2.2.2.2.1
  obtain ⟨kl, hkl⟩ := intp_key htx
  have HN := Lib.hid hn
  have HP := Lib.hid hp
  have HH := Lib.hid h
  have HNEW := Lib.hid hnew
  have HD := Lib.hid (fun W (hW : Gr w W) => newDeal_any A n c ps W hn hl h0 (hp _ (Ch.of hW)) hI)
  have HWR := Lib.hid (fun (s' : Sx) W (hI : Its B W (siteIt s')) (hp : Pts W A ps) => write5_any 1 tx A n c ps W hI hn hl hp)
  have hdr := (Gr.refl w).drew
  have n6d := hdr.keep n6
  have hlt : s.p < w.heap.size := (h.lt (g := s.p) (by simp [siteIt, blks])).1
  have hne : s.p ≠ s.mo := h.ne (i := 0) (j := 4) (by omega) rfl rfl
  have HLT := Lib.hid (And.intro hlt hne)
  have HOPN := Lib.hid h.sOpn
  clear hn hp h hnew hI hlt hne
  go_enter Try.func43, Try.ntmps43
  go_upto_region 1 with fail
  refine wp_region_held_drew (S := (fun W' => W'.cell? ⟨s.p, 6, none⟩ = some (.map (some s.mo)))) ?_ ?_ (fun hHeld => ?_)
  · kernel_rfl
  · ((try dsimp only); (first | exact hHeld | assumption))
  refine take_in (i := 0) (v := ?_) (d := (some 7)) rfl rfl ?_ ?_ ?_ ?_ ?_ ?_ ?_ ?_
  rotate_left
  · kernel_rfl
  · kernel_rfl
  · kernel_rfl
  · (intro _ _ _ hq; exact hq)
  · rfl
  · (intro _w hSw; (try dsimp only at hSw); go_simp; try with_reducible rfl)
  · assumption
  try simp only [Act.put, List.setIfInBounds_toArray, List.set_cons_zero, List.set_cons_succ]
  refine take_in (i := 1) (v := ?_) (d := (some 8)) rfl rfl ?_ ?_ ?_ ?_ ?_ ?_ ?_ ?_
  rotate_left
  · kernel_rfl
  · kernel_rfl
  · kernel_rfl
  · (intro _ _ _ hq; exact hq)
  · rfl
  · (intro _w hSw; (try dsimp only at hSw); go_simp; try with_reducible rfl)
  · assumption
  try simp only [Act.put, List.setIfInBounds_toArray, List.set_cons_zero, List.set_cons_succ]
  refine take_in (i := 2) (v := ?_) (d := (some 9)) rfl rfl ?_ ?_ ?_ ?_ ?_ ?_ ?_ ?_
  rotate_left
  · kernel_rfl
  · kernel_rfl
  · kernel_rfl
  · (intro _ _ _ hq; exact hq)
  · rfl
  · (intro _w hSw; (try dsimp only at hSw); go_simp; try with_reducible rfl)
  · assumption
  try simp only [Act.put, List.setIfInBounds_toArray, List.set_cons_zero, List.set_cons_succ]
  refine take_in (i := 3) (v := ?_) (d := (some 10)) rfl rfl ?_ ?_ ?_ ?_ ?_ ?_ ?_ ?_
  rotate_left
  · kernel_rfl
  · kernel_rfl
  · kernel_rfl
  · (intro _ _ _ hq; exact hq)
  · rfl
  · (intro _w hSw; (try dsimp only at hSw); go_simp; try with_reducible rfl)
  · assumption
  try simp only [Act.put, List.setIfInBounds_toArray, List.set_cons_zero, List.set_cons_succ]
  refine take_in (i := 4) (v := ?_) (d := (some 11)) rfl rfl ?_ ?_ ?_ ?_ ?_ ?_ ?_ ?_
  rotate_left
  · kernel_rfl
  · kernel_rfl
  · kernel_rfl
  · (intro _ _ _ hq; exact hq)
  · rfl
  · (intro _w hSw; (try dsimp only at hSw); go_simp; try with_reducible rfl)
  · assumption
  try simp only [Act.put, List.setIfInBounds_toArray, List.set_cons_zero, List.set_cons_succ]
  refine take_in (i := 5) (v := ?_) (d := (some 12)) rfl rfl ?_ ?_ ?_ ?_ ?_ ?_ ?_ ?_
  rotate_left
  · kernel_rfl
  · kernel_rfl
  · kernel_rfl
  · (intro _ _ _ hq; exact hq)
  · rfl
  · (intro _w hSw; (try dsimp only at hSw); go_simp; try with_reducible rfl)
  · assumption
  try simp only [Act.put, List.setIfInBounds_toArray, List.set_cons_zero, List.set_cons_succ]
  refine wpAnyH_ready (rs := [6]) ?_ ?_ ?_
  · kernel_rfl
  · simp
  refine (AllReadyH.cons rfl (fun K hK => ?_) AllReadyH.nil)
  go_simp
  first | (go_at_call 56; (with_reducible refine (HD.out _ hdr).mono ?_); rintro e w3 ⟨d, rfl, hd1, hd2, hd3, hd4, hd5, hg3⟩; have HDN := Lib.hid (DlNew.mk hd1 hd2 hd3.1 hd3.2.1 hd3.2.2 hd4 hd5); have HG3 := Lib.hid hg3; have m6 := hg3.keep n6d; have HM3 := Lib.hid (HOPN.out.keep (hdr.trans hg3)); clear hd1 hd2 hd3 hd4 hd5 hg3)
  refine hK.out _ _ ?_ (fun hHeld => ?_)
  · ((try dsimp only); (first | exact hHeld | assumption))
  clear hK K
  try simp only [Act.put, List.setIfInBounds_toArray, List.set_cons_zero, List.set_cons_succ]
  refine wpAnyH_ready (rs := [7]) ?_ ?_ ?_
  · kernel_rfl
  · simp
  refine (AllReadyH.cons rfl (fun K hK => ?_) AllReadyH.nil)
  first | (refine held_update (by rfl) (.tmp 10) (.tmp 11) (.tmp 13) _ (by rfl) HM3.out intK_inj intp_law _ Try.underlying79 tx d kl hkl (by rfl) (by rfl) (by rfl) (by rfl) ?_; intro w4 hm4 hb4; rw [mput_new d HNEW.out] at hm4; have m7 := gb_cell5 hb4 m6 (by have := HLT.out.1; have := (hdr.trans HG3.out).size; dsimp only; omega) HLT.out.2; have HM4 := Lib.hid hm4; have HB4 := Lib.hid hb4; clear hm4 hb4)
  refine hK.out _ _ ?_ (fun hHeld => ?_)
  · ((try dsimp only); (first | exact hHeld | assumption))
  clear hK K
  try simp only [Act.put, List.setIfInBounds_toArray, List.set_cons_zero, List.set_cons_succ]
  refine wpAnyH_done ?_ ?_ _
  · kernel_rfl
  rotate_left
  all_goals
    have hgr := hdr.trans HG3.out
    have h4 := siteOpen HH.out hgr ⟨HDN.out.1, HDN.out.2, HDN.out.3, HDN.out.4, HDN.out.5, HDN.out.6, HDN.out.7⟩ HB4.out HM4.out
    have hch : Ch (blks (siteIt s)) w w4 := (Ch.of hgr).trans (Ch.gb HB4.out (blk_mo s)) (fun g hg => Or.inl hg)
    have HBK := Lib.hid (siteOpen_blk (s := s) (tx := tx) HDN.out)
    have HP4 := Lib.hid (HP.out _ hch)
    have HI4 := Lib.hid h4
    have HCH := Lib.hid hch
    have HPM := Lib.hid (And.intro HDN.out.parts HDN.out.miss)
    clear hHeld hgr h4 hch HDN HB4 HM4 HG3 HM3 m6 m7 hdr n6 n6d hkl
    go_wp2_with fail
    refine (HWR.out _ _ HI4.out HP4.out).mono ?_
    rintro e w5 ⟨A5, c5, rfl, hr5, hg5, hc5⟩
    go_wp2_with fail
    go_ret
    exact ⟨d, HPM.out.1, HPM.out.2, ⟨A5, c5, rfl, hr5, hc5⟩, HI4.out.keep hg5, HCH.out.gr hg5, rfl, HBK.out⟩

end Go.Proofs.Ytnoeiocbmhkmeaa
