/- Layer 2: the law's probe that the program is there. -/
import Derived.Test.YtcojionipffanabCSome
import Derived.Test.YtcojionipffanabCBest
namespace Go.Proofs.Ytcojionipffanab
open Go.RowKit
set_option linter.unusedSimpArgs false

theorem Makes.readL {bs : List Bl} {W H : Nat} {P : List St} {m : List Bl} (h : Makes bs W H P m) (h1 : 1 ≤ W) (h2 : W ≤ 48) (h3 : 1 ≤ H) (h4 : H ≤ 48) : readL bs W H P = some m := by
  have hs := h.small h1 h3 h2 h4
  have hr := h.rd []
  rw [List.append_nil] at hr
  unfold Go.Proofs.Ytcojionipffanab.readL
  rw [if_pos (by omega), hr]; rfl
theorem worthL_of {bs : List Bl} {W H : Nat} {P : List St} {m : List Bl} (h : Makes bs W H P m) (ht : taskB W H bs = true) : worthL W H bs P = (sumV m, 0) := by
  obtain ⟨⟨h1, h2⟩, ⟨h3, h4⟩, -⟩ := (taskB_iff _ _ _).1 ht
  unfold worthL
  rw [if_pos ht, h.readL (by omega) (by omega) (by omega) (by omega)]
theorem restL_of {bs : List Bl} {W H : Nat} {P : List St} {m : List Bl} (h : Makes bs W H P m) (ht : taskB W H bs = true) : restL W H bs P = ((W : Int) * H - sumA m, 0) := by
  obtain ⟨⟨h1, h2⟩, ⟨h3, h4⟩, -⟩ := (taskB_iff _ _ _).1 ht
  unfold restL
  rw [if_pos ht, h.readL (by omega) (by omega) (by omega) (by omega)]
theorem check_mst {bs : List Bl} {W H : Nat} (ht : taskB W H bs = true) : checkL W H bs (mstTb bs W H) = 0 := by
  obtain ⟨⟨h1, h2⟩, ⟨h3, h4⟩, -, hbs⟩ := (taskB_iff _ _ _).1 ht
  unfold checkL
  rw [if_pos ht]
  simp only [Int.toNat_natCast]
  rw [if_pos]
  rw [Bool.and_eq_true]
  exact ⟨(formB_iff _ _ _).2 (mstTb_frm hbs (by omega) (by omega)), (boundB_iff _ _ _ _).2 (mstTb_bound hbs W H)⟩
theorem all_one {m : List Bl} (h : ∀ b ∈ m, b ∈ [((2, 1, 3) : Bl)]) : 2 * sumV m = 3 * sumA m := by
  induction m with
  | nil => rfl
  | cons b r ih =>
    have hb : b = (2, 1, 3) := by simpa using h b (List.mem_cons_self ..)
    have := ih (fun x hx => h x (List.mem_cons_of_mem _ hx))
    subst hb
    simp only [sumV, sumA]; omega
theorem mstTb_short {bs : List Bl} {W H : Nat} (hH : H ≤ 48) : ∀ row ∈ mstTb bs W H, row.length ≤ 281474976710656 := fun row hr => by
  obtain ⟨a, -, rfl⟩ := List.mem_map.1 hr
  rw [mstR_len]; omega

def awB : List Bl := [(2, 1, 3)]
theorem aw_most : mst awB 5 2 = 12 := by decide
theorem aw_task : taskB ((5 : Nat) : Int) ((2 : Nat) : Int) awB = true := by decide

set_option maxRecDepth 100000 in
set_option maxHeartbeats 400000 in
theorem cawake_any (w : World) : Calls Try.prog 18 #[] w fun e w' => e = .returned (.bool true) ∧ Gr w w' := by
  go_enter Try.func18, Try.ntmps18
  go_wp2_with fail
  generalize hW : World.alloc w _ = W
  have hgW : Gr w W := by rw [← hW]; exact (Gr.refl _).alloc _
  have hB : Tris W (some ⟨w.heap.size, 0, none⟩) awB := by
    rw [← hW]
    exact Rd_lit enc3_len (Blk.new w _ _ rfl) rfl
  have HB := Lib.hid hB
  clear hW hB
  refine (Best_yes 5 2 _ 1 1 awB W rfl (by omega) HB.out aw_task).mono ?_
  rintro e w1 ⟨P, m, g, c, g2, rfl, hM, hs, hPc, -, -, hown, hR, hg⟩
  have HPL := Lib.hid (hM.small (by omega) (by omega) (by omega) (by omega))
  rw [aw_most] at hs
  have hmem := (rdP_made awB _ _ _ _ _ _ (Nat.le_refl _) (hM.rd [])).1
  have hA := all_one hmem
  have HV : Hid (worthL ((5 : Nat) : Int) ((2 : Nat) : Int) awB P = (12, 0)) := Lib.hid (by rw [worthL_of hM aw_task, hs])
  have HRS : Hid (restL ((5 : Nat) : Int) ((2 : Nat) : Int) awB P = (2, 0)) := Lib.hid (by rw [restL_of hM aw_task]; rw [hs] at hA; rw [show sumA m = 8 by omega]; rfl)
  have HP := Lib.hid (PlanPost.pts (Go.Proofs.Ytcojionipffanab.owns_base hown (Nat.le_refl _)))
  have HRR := Lib.hid hR
  obtain ⟨n, hn⟩ : ∃ n, P.length = n := ⟨_, rfl⟩
  have HN := Lib.hid hn
  rw [hn] at HPL ⊢
  have hnl : n ≤ 4607 := HPL.out
  clear hM hs hown hR hmem hA hPc HPL hn
  go_wp2_with fail
  refine (Worth_any 5 2 _ _ 1 1 n c awB P _ rfl (by omega) HN.out (by omega) (HB.out.keep hg) HP.out).mono ?_
  rintro e w2 ⟨rfl, hb2⟩
  have e1 : (worthL 5 2 awB P) = (12, 0) := HV.out
  rw [e1]
  clear e1
  go_wp2_with fail
  refine (Rest_any 5 2 _ _ 1 1 n c awB P _ rfl (by omega) HN.out (by omega) (HB.out.keep (hg.trans hb2)) (HP.out.keep hb2)).mono ?_
  rintro e w3 ⟨rfl, hb3⟩
  have e1 : (restL 5 2 awB P) = (2, 0) := HRS.out
  rw [e1]
  clear e1
  go_wp2_with fail
  refine (Check_any 5 2 _ _ 1 1 6 6 awB (mstTb awB 5 2) _ rfl (by omega) (mstTb_len _ _ _) (by omega) (mstTb_short (by omega)) (HB.out.keep ((hg.trans hb2).trans hb3)) ((HRR.out.keep (hb2.trans hb3)).rd)).mono ?_
  rintro e w4 ⟨rfl, hb4⟩
  have e1 : checkL 5 2 awB (mstTb awB 5 2) = 0 := check_mst aw_task
  rw [e1]
  clear e1
  go_wp2_with fail
  go_ret
  exact ⟨rfl, (((hgW.trans hg).trans hb2).trans hb3).trans hb4⟩

end Go.Proofs.Ytcojionipffanab
