/- Layer 3: the reference's codeword. -/
import Derived.Test.YtbkbgcapkhelhaaLRefD
namespace Go.Proofs.Ytbkbgcapkhelhaa
open Go.RowKit
set_option linter.unusedSimpArgs false

def dvK (xs : List G) (i : Nat) (f : G) (ys : List G) : List G := xs.take i ++ addL (xs.drop i) f ys
theorem dvK_nil (xs : List G) (i : Nat) (f : G) : dvK xs i f [] = xs := by unfold dvK; rw [addL_nil, List.take_append_drop]
theorem dvK_len (xs : List G) (i : Nat) (f : G) (ys : List G) (h : i ≤ xs.length) : (dvK xs i f ys).length = xs.length := by
  unfold dvK; rw [List.length_append, addL_len, List.length_take, List.length_drop]; omega
theorem dvK_step (xs : List G) (i : Nat) (f : G) (d : List G) (k : Nat) (hk : k < d.length) (h : i + k < xs.length) :
    ∃ x, (dvK xs i f (d.take k)).getD (i + k) g0 = x ∧ dvK xs i f (d.take (k + 1)) = (dvK xs i f (d.take k)).set (i + k) (x + f * d.getD k g0) := by
  obtain ⟨h1, h2⟩ := addL_step (xs.drop i) f d k hk (by rw [List.length_drop]; omega)
  have hl : (xs.take i).length = i := by rw [List.length_take]; omega
  refine ⟨(xs.drop i).getD k g0, ?_, ?_⟩
  · unfold dvK
    rw [List.getD_eq_getElem?_getD, List.getElem?_append_right (by omega), hl, show i + k - i = k by omega, ← List.getD_eq_getElem?_getD, h1]
  · unfold dvK
    rw [h2, List.set_append_right _ _ (by omega), hl, show i + k - i = k by omega]
def codeL (xs : List G) (p : Nat) : List G := xs ++ chkL xs p
/-- data laid over the front, step by step. -/
def frontL (xs ys : List G) (i : Nat) : List G := xs.take i ++ ys.drop i
theorem frontL_step (xs ys : List G) (i : Nat) (h1 : i < xs.length) (h2 : i < ys.length) : frontL xs ys (i + 1) = (frontL xs ys i).set i (xs.getD i g0) := by
  unfold frontL
  have hl : (xs.take i).length = i := by rw [List.length_take]; omega
  rw [List.take_add_one, getD_of g0 h1, List.set_append_right _ _ (by omega), hl, Nat.sub_self, List.drop_eq_getElem_cons h2, List.set_cons_zero, List.append_assoc]
  rfl
theorem frontL_len (xs ys : List G) (i : Nat) (h1 : i ≤ xs.length) (h2 : i ≤ ys.length) : (frontL xs ys i).length = ys.length := by
  unfold frontL; rw [List.length_append, List.length_take, List.length_drop]; omega
theorem rootsL_range (p : Nat) : rootP ((List.range (p + 1)).map gp) = timesR (rootP ((List.range p).map gp)) (gp p) := by
  unfold rootP
  rw [List.range_succ, List.map_append]
  exact rootsL_snoc _ _ _

set_option maxRecDepth 100000 in
set_option maxHeartbeats 8000000 in
theorem rEncode_any (A : Option Addr) (n c p : Nat) (xs : List G) (w : World) (hn : xs.length = n) (hl : n ≤ 300) (hpl : p ≤ 64) (hA : Ints w A (gints xs)) :
    Calls Try.prog 21 #[.slice A n c, .int .i64 (p : Int)] w fun e w' => ∃ g, e = .returned (.slice (some ⟨g, 0, none⟩) (n + p) (n + p)) ∧ Ints w' (some ⟨g, 0, none⟩) (gints (codeL xs p)) ∧ Gr w w' := by
  have hmk : ∀ w, (Instr.makeSlice 34 (.int .i64 ((n : Int) + (p : Int))) (.int .i64 ((n : Int) + (p : Int)))).run Try.prog w = .ok (.slice (some ⟨w.heap.size, 0, none⟩) (n + p) (n + p)) (w.alloc (.cells (ics (List.replicate (n + p) g0)) 3)) := fun w => by
    have := mk_ints (n + p) (by omega) w
    rw [show (((n + p : Nat)) : Int) = (n : Int) + (p : Int) by omega] at this
    exact this
  have HMK := Lib.hid hmk
  have HN := Lib.hid hn
  have HA := Lib.hid hA
  clear hn hA hmk
  go_enter Try.func21, Try.ntmps21
  go_wp2_with fail
  have hB0 : BI (w.alloc (.cells #[.int .i64 1] 3)) w.heap.size [g1] := BI.new w [g1] rfl
  have hg0 : Gr w (w.alloc (.cells #[.int .i64 1] 3)) := (Gr.refl _).alloc _
  go_loopw [5, 6] (fun v z wr => ∃ i g : Nat, i ≤ p ∧ z = .int .i64 i ∧ v = .slice (some ⟨g, 0, none⟩) (i + 1) (i + 1) ∧ Hid (BI wr g (rootP ((List.range i).map gp))) ∧ Hid (Gr w wr)) (fun _ z _ => p - (intOf z).toNat)
  case atStart => exact ⟨0, w.heap.size, Nat.zero_le _, rfl, rfl, Lib.hid hB0, Lib.hid hg0⟩
  case round =>
    obtain ⟨i, g, hi, rfl, rfl, hB, hg⟩ := hrel
    by_cases hlt : i < p
    · have HT : Hid (rootP ((List.range (i + 1)).map gp) = timesR (rootP ((List.range i).map gp)) (gp i)) := Lib.hid (rootsL_range i)
      have hrl : (rootP ((List.range i).map gp)).length = i + 1 := by rw [rootP_len]; simp
      have HRL := Lib.hid hrl
      generalize rootP ((List.range i).map gp) = rs at HT hB HRL
      clear hrl
      go_wp2_with fail
      refine (rPow_two i (by omega) _).mono ?_
      rintro e w1 ⟨rfl, rfl⟩
      generalize gp i = x at HT ⊢
      have hga : Gr w1 (w1.alloc (.cells #[.int .i64 1, .int .i64 (x.v : Int)] 3)) := (Gr.refl _).alloc _
      have HF : Hid (BI (w1.alloc (.cells #[.int .i64 1, .int .i64 (x.v : Int)] 3)) w1.heap.size [g1, x]) := Lib.hid (BI.new w1 [g1, x] rfl)
      have HTI := Lib.hid (rTimes_any (some ⟨g, 0, none⟩) (some ⟨w1.heap.size, 0, none⟩) (i + 1) (i + 1) 2 rs x _ (by omega) (by omega) HRL.out (hB.out.keep hga).pts HF.out.pts)
      have HGA := Lib.hid (hg.out.trans hga)
      clear hga
      go_wp2_with fail
      refine HTI.out.mono ?_
      rintro e w2 ⟨g2, rfl, -, hB2, hg2⟩
      go_wp2_with fail
      go_roundw
      case rel => exact ⟨i + 1, g2, by omega, by go_num, rfl, by rw [HT.out]; exact Lib.hid hB2, Lib.hid (HGA.out.trans hg2)⟩
      case measure => simp [intOf]; omega
    · have hip : i = p := by omega
      have hlt' : ¬ ((i : Int) < (p : Int)) := by omega
      subst hip
      obtain ⟨d, hd⟩ : ∃ d, rootP ((List.range i).map gp) = d := ⟨_, rfl⟩
      have hdl : d.length = i + 1 := by rw [← hd, rootP_len]; simp
      rw [hd] at hB
      have HD := Lib.hid hd
      have HDL := Lib.hid hdl
      have hmk := HMK.out wr
      have HG0 := Lib.hid (hg.out.alloc (.cells (ics (List.replicate (n + i) g0)) 3))
      have HB0 := Lib.hid (BI.new wr (List.replicate (n + i) g0) rfl)
      have HBD := Lib.hid (hB.out.keep ((Gr.refl wr).alloc (.cells (ics (List.replicate (n + i) g0)) 3)))
      have hgl := hB.out.lt
      have hws := hg.out.size
      have HZ : Hid (frontL xs (List.replicate (n + i) g0) n = xs ++ List.replicate i g0) := Lib.hid (by
        unfold frontL
        rw [List.take_of_length_le (by rw [HN.out]; exact Nat.le_refl _), List.drop_replicate, show n + i - n = i by omega])
      have HZL : Hid ((List.replicate (n + i) g0).length = n + i) := Lib.hid (by simp)
      clear hd hdl HMK hB hB0 hg0 hg
      go_wp2_with (simp only [hmk])
      generalize hW : wr.alloc _ = W2 at HG0 HB0 HBD ⊢
      generalize hS : wr.heap.size = S at HB0 hgl hws ⊢
      generalize List.replicate (n + i) g0 = zs at HB0 HZ HZL
      clear hmk hW hS
      go_loopw [8] (fun z wx => ∃ j : Nat, j ≤ n ∧ z = .int .i64 j ∧ Hid (BI wx S (frontL xs zs j)) ∧ Hid (Gb S W2 wx)) (fun z _ => n - (intOf z).toNat)
      case atStart => exact ⟨0, Nat.zero_le _, rfl, by simpa [frontL] using HB0, Lib.hid (Gb.refl _ _)⟩
      case round =>
        obtain ⟨j, hj, rfl, hB, hG⟩ := hrel
        by_cases hlt2 : j < n
        · have hjx : j < xs.length := by have := HN.out; omega
          have hgw := hG.out.gr HG0.out hws
          obtain ⟨ba, oa, rfl, a0⟩ := Ints_at (HA.out.keep hgw) (i := j) (by rw [gints_len]; exact hjx)
          rw [gints_at hjx] at a0
          have HST := Lib.hid (frontL_step xs zs j hjx (by have := HZL.out; omega))
          have hln := frontL_len xs zs j (by omega) (by have := HZL.out; omega)
          have c1 := hB.out.at (i := j) (by rw [hln]; have := HZL.out; omega)
          have c2 := hB.out.free j
          generalize xs.getD j g0 = x at a0 HST
          generalize frontL xs zs j = ys at hB HST c1
          clear hln
          go_wp2_with fail
          go_roundw
          case rel => exact ⟨j + 1, by omega, by go_num, by rw [HST.out]; exact Lib.hid (hB.out.put j x), Lib.hid (hG.out.put j _)⟩
          case measure => simp [intOf]; omega
        · have hjn : j = n := by omega
          have hlt3 : ¬ ((j : Int) < (n : Int)) := by omega
          rw [hjn, HZ.out] at hB
          have HR0 : Hid ((xs ++ List.replicate i g0).length = n + i) := Lib.hid (by rw [List.length_append, HN.out, List.length_replicate])
          have HCH : Hid (chkL xs i = (dvL d (xs ++ List.replicate i g0) n).drop n) := Lib.hid (by unfold chkL; rw [HD.out, HN.out])
          generalize xs ++ List.replicate i g0 = r0 at hB HR0 HCH
          clear hjn
          go_wp2_with fail
          go_loopw [9] (fun z wx => ∃ a : Nat, a ≤ n ∧ z = .int .i64 a ∧ Hid (BI wx S (dvL d r0 a)) ∧ Hid (Gb S W2 wx)) (fun z _ => n - (intOf z).toNat)
          case atStart => exact ⟨0, Nat.zero_le _, rfl, hB, hG⟩
          case round =>
            clear hB hG
            obtain ⟨a, ha, rfl, hB, hG⟩ := hrel
            by_cases hlt4 : a < n
            · have HS : Hid (dvL d r0 (a + 1) = dvK (dvL d r0 a) a ((dvL d r0 a).getD a g0) d) := Lib.hid (dvL_succ d r0 a)
              have hyl : (dvL d r0 a).length = n + i := by rw [dvL_len]; exact HR0.out
              have HYL := Lib.hid hyl
              have c1 := hB.out.at (i := a) (by omega)
              generalize dvL d r0 a = ys at hB HS HYL c1
              generalize ys.getD a g0 = f at c1 HS
              clear hyl
              go_wp2_with fail
              go_loopw [11] (fun z wy => ∃ k : Nat, k ≤ i + 1 ∧ z = .int .i64 k ∧ Hid (BI wy S (dvK ys a f (d.take k))) ∧ Hid (Gb S W2 wy)) (fun z _ => i + 1 - (intOf z).toNat)
              case atStart => exact ⟨0, Nat.zero_le _, rfl, by simpa [dvK_nil] using hB, hG⟩
              case round =>
                clear hB hG c1
                obtain ⟨k, hk, rfl, hB, hG⟩ := hrel
                by_cases hlt5 : k < i + 1
                · have hkd : k < d.length := by have := HDL.out; omega
                  obtain ⟨x, e1, e2⟩ := dvK_step ys a f d k hkd (by have := HYL.out; omega)
                  have hln := dvK_len ys a f (d.take k) (by have := HYL.out; omega)
                  have c1 := hB.out.at (i := a + k) (by rw [hln]; have := HYL.out; omega)
                  rw [e1] at c1
                  have c2 := hB.out.free (a + k)
                  have d0 := (HBD.out.gb hG.out (by omega)).at hkd
                  have E2 := Lib.hid e2
                  have HPR := Lib.hid (fun W' => rMul_g f (d.getD k g0) W')
                  generalize d.getD k g0 = y at d0 E2 HPR
                  generalize dvK ys a f (d.take k) = vs at hB E2 c1
                  have hx := i64_xor_gg x (f * y)
                  have j1 : IntKind.i64.wrap ((a : Int) + (k : Int)) = (a : Int) + (k : Int) := IntWalk.i64_in _ (by omega)
                  have j2 : (0 : Int) ≤ (a : Int) + (k : Int) := by omega
                  have j3 : (a : Int) + (k : Int) < (n : Int) + (i : Int) := by omega
                  have j5 : ((a : Int) + (k : Int)).toNat = a + k := by omega
                  have j6 : (k : Int) < (i : Int) + 1 := by omega
                  clear e1 e2 hln
                  go_wp2_with fail
                  go_region_law (first | (go_simp; go_at_call 15; refine (HPR.out _).mono ?_; rintro e w2 ⟨rfl, rfl⟩))
                  all_goals
                    go_wp2_with fail
                    go_roundw
                    case rel =>
                      refine ⟨k + 1, by omega, by go_num, Lib.hid ?_, Lib.hid ?_⟩
                      · rw [E2.out]
                        first
                        | exact ((hB.out.put (a + k) (x + f * y)).keep (Gr.refl _).drew)
                        | exact (hB.out.keep (Gr.refl _).drew).put (a + k) (x + f * y)
                        | exact hB.out.put (a + k) (x + f * y)
                      · first
                        | exact ((hG.out.put (a + k) _).drew)
                        | exact ((hG.out.drew).put (a + k) _)
                        | exact hG.out.put (a + k) _
                    case measure => simp [intOf] <;> omega
                · have hki : k = i + 1 := by omega
                  have hlt6 : ¬ ((k : Int) < (i : Int) + 1) := by omega
                  rw [hki, List.take_of_length_le (by rw [HDL.out]; exact Nat.le_refl _), ← HS.out] at hB
                  clear hki
                  go_wp2_with fail
                  go_roundw
                  case rel => exact ⟨a + 1, by omega, by go_num, hB, hG⟩
                  case measure => simp [intOf] <;> omega
            · have han : a = n := by omega
              have hlt5 : ¬ ((a : Int) < (n : Int)) := by omega
              rw [han] at hB
              have HRL : Hid ((dvL d r0 n).length = n + i) := Lib.hid (by rw [dvL_len]; exact HR0.out)
              have HCO : Hid (codeL xs i = frontL xs (dvL d r0 n) n) := Lib.hid (by
                unfold codeL frontL
                rw [HCH.out, List.take_of_length_le (by rw [HN.out]; exact Nat.le_refl _)])
              generalize dvL d r0 n = rs at hB HRL HCO
              clear han
              go_wp2_with fail
              go_loopw [12] (fun z wx => ∃ j : Nat, j ≤ n ∧ z = .int .i64 j ∧ Hid (BI wx S (frontL xs rs j)) ∧ Hid (Gb S W2 wx)) (fun z _ => n - (intOf z).toNat)
              case atStart => exact ⟨0, Nat.zero_le _, rfl, by simpa [frontL] using hB, hG⟩
              case round =>
                clear hB hG
                obtain ⟨j2, hj2, rfl, hB, hG⟩ := hrel
                by_cases hlt7 : j2 < n
                · have hjx : j2 < xs.length := by have := HN.out; omega
                  have hgw := hG.out.gr HG0.out hws
                  obtain ⟨ba, oa, rfl, a0⟩ := Ints_at (HA.out.keep hgw) (i := j2) (by rw [gints_len]; exact hjx)
                  rw [gints_at hjx] at a0
                  have HST := Lib.hid (frontL_step xs rs j2 hjx (by have := HRL.out; omega))
                  have hln := frontL_len xs rs j2 (by omega) (by have := HRL.out; omega)
                  have c1 := hB.out.at (i := j2) (by rw [hln]; have := HRL.out; omega)
                  have c2 := hB.out.free j2
                  generalize xs.getD j2 g0 = x at a0 HST
                  generalize frontL xs rs j2 = ys at hB HST c1
                  clear hln
                  go_wp2_with fail
                  go_roundw
                  case rel => exact ⟨j2 + 1, by omega, by go_num, by rw [HST.out]; exact Lib.hid (hB.out.put j2 x), Lib.hid (hG.out.put j2 _)⟩
                  case measure => simp [intOf]; omega
                · have hjn2 : j2 = n := by omega
                  have hlt8 : ¬ ((j2 : Int) < (n : Int)) := by omega
                  rw [hjn2, ← HCO.out] at hB
                  clear hjn2
                  go_wp2_with fail
                  try rw [Exit.noGoto_ret]
                  go_ret
                  exact ⟨S, rfl, hB.out.pts, hG.out.gr HG0.out hws⟩
end Go.Proofs.Ytbkbgcapkhelhaa
