/- Layer 5: Tick, for any net. -/
import Derived.Test.YtnoeiocbmhkmeaaPtAT
import Derived.Test.YtnoeiocbmhkmeaaPvB
namespace Go.Proofs.Ytnoeiocbmhkmeaa
open Go.RowKit
open Go.Maps (Keyed)
set_option linter.unusedSimpArgs false

theorem keysS_dz (l : List (Int × Dl)) : keysS (dzs l) = keysS l := by
  unfold keysS dzs
  rw [List.map_map]
  rfl
theorem remL_nz (s : Sx) : remL (nz s) = remL s := by
  have h1 : askT (nz s) = askT s := by
    funext tx
    unfold askT
    show (match mget (dzs s.opn) tx with | some d => _ | none => _) = _
    rw [mget_dz]
    cases mget s.opn tx <;> rfl
  have h2 : comT (nz s) = comT s := by
    funext tx
    unfold comT
    show (match mget (dzs s.grt) tx with | some d => _ | none => _) = _
    rw [mget_dz]
    cases mget s.grt tx <;> rfl
  have h3 : whaT (nz s) = whaT s := rfl
  unfold remL
  rw [h1, h2, h3]
  show (keysS (dzs s.opn)).flatMap _ ++ (keysS (dzs s.grt)).flatMap _ ++ _ = _
  rw [keysS_dz, keysS_dz]
  rfl
theorem keysT_few {β : Type} {l : List (Int × β)} {b : Int} (hp : l.Pairwise (fun p q => p.1 ≠ q.1)) (h : ∀ e ∈ l, 1 ≤ e.1 ∧ e.1 ≤ b) (hb : b ≤ 256) : l.length ≤ 257 := by
  have h1 : (l.map (fun p => p.1.toNat)).Nodup := by
    rw [List.nodup_iff_pairwise_ne, List.pairwise_map]
    refine hp.imp_of_mem ?_
    intro p r hp hr hne e
    have := h p hp
    have := h r hr
    omega
  have h2 := List.Nodup.length_le_of_subset h1 (l₂ := List.range 257) (fun x hx => by
    obtain ⟨e, he, rfl⟩ := List.mem_map.1 hx
    have := h e he
    rw [List.mem_range]; omega)
  simpa using h2
theorem rem_ok {q : Nat} {b : Int} {s : Sx} (h : OkS q b (nz s)) (hb : b ≤ 256) (hq : q ≤ 8) : RemOk s := by
  have ho : ∀ e ∈ s.opn, (1 ≤ e.1 ∧ e.1 ≤ b) ∧ OkD q (dz e.2) := fun e he => h.opn (e.1, dz e.2) (List.mem_map.2 ⟨e, he, rfl⟩)
  have hg : ∀ e ∈ s.grt, (1 ≤ e.1 ∧ e.1 ≤ b) ∧ OkD q (dz e.2) := fun e he => h.grt (e.1, dz e.2) (List.mem_map.2 ⟨e, he, rfl⟩)
  have hp : ∀ e ∈ s.prom, (1 ≤ e.1 ∧ e.1 ≤ b) := fun e he => (h.prom e he).1
  have k1 := keysT_few h.opnA (fun e he => (h.opn e he).1) hb
  have k2 := keysT_few h.grtA (fun e he => (h.grt e he).1) hb
  have k3 := keysT_few h.promA (fun e he => (h.prom e he).1) hb
  have e1 : (nz s).opn.length = s.opn.length := List.length_map _
  have e2 : (nz s).grt.length = s.grt.length := List.length_map _
  have e3 : (nz s).prom.length = s.prom.length := rfl
  have key : ∀ (tx : Int) (d : Dl), (1 ≤ tx ∧ tx ≤ b) ∧ OkD q (dz d) → DlOk tx d := fun tx d hd => ⟨by unfold I64; omega, hd.2.hi, fun p hp => by
    have := hd.2.part p hp
    unfold I64; omega⟩
  exact ⟨fun e he => key _ _ (ho e he), fun e he => key _ _ (hg e he), fun e he => by have := hp e he; unfold I64; omega, by omega, by omega, by omega⟩
theorem miss_few8 {s : Sx} (h : RemOk s) : (remL s).length ≤ 20000 := by
  have fl : ∀ (f : Int → List Ml) (l : List Int), (∀ x ∈ l, (f x).length ≤ 8) → (l.flatMap f).length ≤ 8 * l.length := by
    intro f l
    induction l with
    | nil => intro _; simp
    | cons x r ih =>
      intro hx
      have h1 := ih (fun y hy => hx y (List.mem_cons_of_mem _ hy))
      have h2 := hx x (List.mem_cons_self)
      rw [List.flatMap_cons, List.length_append, List.length_cons]
      omega
  have a1 : ∀ x ∈ keysS s.opn, (askT s x).length ≤ 8 := fun x _ => by
    unfold askT
    split
    · rename_i d hd
      have := (h.opn _ (mget_some hd)).few
      unfold wrL
      rw [List.length_map]
      exact Nat.le_trans (miss_few _ _) this
    · simp
  have a2 : ∀ x ∈ keysS s.grt, (comT s x).length ≤ 8 := fun x _ => by
    unfold comT
    split
    · rename_i d hd
      have := (h.grt _ (mget_some hd)).few
      unfold wrL
      rw [List.length_map]
      exact Nat.le_trans (miss_few _ _) this
    · simp
  have b1 := fl _ _ a1
  have b2 := fl _ _ a2
  rw [keysS_len] at b1 b2
  have := h.lo
  have := h.lg
  have := h.lp
  unfold remL
  rw [List.length_append, List.length_append, List.length_map, keysS_len]
  omega
def tikI (N : Nx) (i : Int) : Nx := if refD N i = 0 then (match N.sites[i.toNat]? with
  | some s => { N with mail := N.mail ++ (remL s).take (1024 - N.mail.length) }
  | none => N) else N
set_option maxRecDepth 100000 in
set_option maxHeartbeats 4000000 in
theorem Tick_all {B : Nat} {w : World} {N : Nx} (i : Int) (h : NetR B w N) (ho : OkN (nzN N)) :
    Calls Try.prog 27 #[.pointer (some ⟨N.p, 0, none⟩), .int .i64 i] w (NumP B w N (refD N i) (tikI (nzN N) i)) := by
  by_cases hr : refD N i = 0
  · obtain ⟨k, s, rfl, hk, hkn, -⟩ := refD_zero hr
    have HRL := Lib.hid (refDown_any h (k : Int))
    rw [hr] at HRL ⊢
    have n0 := h.blk.cell 0
    obtain ⟨b, off, c, e1, nb⟩ := h.spot5 hk
    simp only [List.getElem?_toArray, List.getElem?_cons_zero] at n0
    rw [e1] at n0
    have hki : (k : Int) < (N.sites.length : Int) := by omega
    have hk0 : (0 : Int) ≤ (k : Int) := by omega
    have hq : (nzN N).sites.length = N.sites.length := List.length_map _
    have hok := rem_ok (ho.site k _ (nz_site hk)).1 ho.beg.2 ho.hi
    have HI : Hid (∀ lv', tikI (nzN N) (k : Int) = nzN { N with mail := N.mail ++ sentL N (remL s), lv := lv' }) := Lib.hid (fun lv' => by
      unfold tikI
      rw [refD_nz, if_pos hr, show ((k : Int)).toNat = k from rfl, nz_site hk]
      dsimp only
      rw [remL_nz]
      rfl)
    have HCC := Lib.hid (fun W (hW : Gr w W) => remind_any W ((h.keep hW).siteIts hk) hok)
    have HH := Lib.hid h
    have HRM := Lib.hid ho.room
    have HFW := Lib.hid (miss_few8 hok)
    generalize N.sites.length = q at n0 hki hkn
    clear h ho hr hk e1 hok hq
    go_enter Try.func27, Try.ntmps27
    go_wp2_with fail
    refine HRL.out.mono ?_
    rintro e w1 ⟨rfl, rfl⟩
    go_wp2_with fail
    refine (HCC.out _ (Gr.refl _)).mono ?_
    rintro e w3 ⟨A3, c3, rfl, hr3, hg3, hc3⟩
    have HS := Lib.hid (sendB_any A3 _ c3 (remL s) w3 (HH.out.keep hg3) rfl (by have := HFW.out; omega) hc3 HRM.out hr3)
    have HG3 := Lib.hid hg3
    clear hr3 hc3 hg3 n0 nb
    go_wp2_with fail
    refine HS.out.mono ?_
    rintro e w4 ⟨rfl, lv', hto⟩
    have HF := Lib.hid (hto.pre HG3.out)
    clear hto
    go_wp2_with fail
    go_ret
    exact ⟨rfl, _, (HI.out lv').symm, HF.out⟩
  · have hI : tikI (nzN N) i = nzN N := by unfold tikI; rw [refD_nz, if_neg hr]
    refine (Tick_bad i h hr).mono ?_
    rintro e w' ⟨rfl, rfl⟩
    exact ⟨rfl, N, hI.symm, NetTo.refl h (Gr.refl _)⟩

end Go.Proofs.Ytnoeiocbmhkmeaa
