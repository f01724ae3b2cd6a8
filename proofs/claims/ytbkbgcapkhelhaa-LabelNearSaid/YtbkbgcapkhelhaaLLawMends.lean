/- The law LabelMends as a walk. -/
import Derived.Test.YtbkbgcapkhelhaaLLawApart
import Derived.Test.YtbkbgcapkhelhaaLSpoil
namespace Go.Proofs.Ytbkbgcapkhelhaa
open Go.RowKit
set_option linter.unusedSimpArgs false

theorem difB_comm (a b : List G) (i : Nat) : difB a b i = difB b a i := by
  unfold difB; congr 1; rw [decide_eq_decide]; exact ⟨Eq.symm, Eq.symm⟩
theorem cnt_list {l : List Nat} {n : Nat} (hd : l.Nodup) (h : ∀ i ∈ l, i < n) : cnt (fun i => l.contains i) n = l.length := by
  have hm : ∀ i, i ∈ posL n (fun i => l.contains i) ↔ i ∈ l := fun i => by
    rw [mem_posL, List.contains_eq_mem, decide_eq_true_eq]
    exact ⟨fun h => h.2, fun h' => ⟨h i h', h'⟩⟩
  refine Nat.le_antisymm ?_ ?_
  · exact nodup_len (posL n _) l (posL_nodup _ _) (fun x hx => (hm x).1 hx)
  · exact nodup_len l (posL n _) hd (fun x hx => (hm x).2 hx)
theorem dec_near {s : ByteArray} {p : Nat} {is : List Nat} {cs : List G} (hs : s.size ≤ 255) (hc : cs.length = s.size) (hB : isB cs p = true) (hnear : 2 * cnt (errB (gs s) cs (lostB is)) s.size + cnt (lostB is) s.size ≤ p) :
    decL s p is = cs ∧ decB s p is = true ∧ decN s p is = cnt (difB (gs s) cs) s.size := by
  have h1 : decL s p is = cs := mend_near hs (gs_len s) hc hB rfl hnear
  refine ⟨h1, ?_, ?_⟩
  · unfold decB; rw [h1]; exact cmp_near hB hnear
  · unfold decN; rw [h1]
theorem dec_take {t : ByteArray} {q : Nat} : txt ((gs (encL t q)).take t.size) = t := by
  rw [gs_enc, ← gs_len t, codeL_take, txt_gs]
theorem mends_math {t : ByteArray} {q most : Nat} {bs : List G} {at_ : List Nat} {cs : List (Int × G)} (h : Spoil (gs (encL t q)) bs at_ most cs) (hm : 2 * most ≤ q) (hn : t.size + q ≤ 255) :
    decB (txt bs) q [] = true ∧ txt ((decL (txt bs) q []).take ((txt bs).size - q)) = t ∧ decN (txt bs) q [] = at_.length := by
  have hsz : (txt bs).size = t.size + q := by rw [txt_size, h.len, gs_len, encL_size]
  have hcs : (gs (encL t q)).length = t.size + q := by rw [gs_len, encL_size]
  have hdif : cnt (difB bs (gs (encL t q))) (t.size + q) = at_.length := by
    rw [cnt_congr (g := fun i => at_.contains i) (fun i hi => by rw [difB_comm]; exact h.dif i (by rw [hcs]; exact hi)), cnt_list h.nodup (fun i hi => by rw [← hcs]; exact h.ins i hi)]
  have herr : cnt (errB bs (gs (encL t q)) (lostB [])) (t.size + q) = at_.length := by
    rw [← hdif]
    refine cnt_congr (fun i _ => ?_)
    unfold errB lostB; simp
  have h0 : cnt (lostB []) (t.size + q) = 0 := cnt_zero (fun i _ => rfl)
  obtain ⟨d1, d2, d3⟩ := dec_near (s := txt bs) (p := q) (is := []) (cs := gs (encL t q)) (by omega) (by rw [hcs, hsz]) (by rw [gs_enc]; exact codeL_isB _ _) (by rw [gs_txt, hsz, herr, h0]; have := h.few; omega)
  refine ⟨d2, ?_, ?_⟩
  · rw [d1, hsz, show t.size + q - q = t.size by omega]; exact dec_take
  · rw [d3, gs_txt, hsz, hdif]

set_option maxRecDepth 100000 in
set_option maxHeartbeats 4000000 in
theorem lawMends_any (s0 : ByteArray) (p : Int) (A : Option Addr) (n c : Nat) (cs : List (Int × G)) (w : World) (_ : -9223372036854775808 ≤ p ∧ p ≤ 9223372036854775807) (hn : cs.length = n) (hl : n ≤ 9223372036854775807) (_ : n ≤ c) (_ : A = none → c = 0) (hA : Chgs w A cs) :
    Calls Try.prog 8 #[.string s0, .int .i64 p, .slice A n c] w fun e w' => e = .returned (.bool true) ∧ Gr w w' := by
  have HF := Lib.hid (fun W => fit_any s0 p 200 (by decide) (by decide) W)
  have HA := Lib.hid hA
  have HN := Lib.hid hn
  clear hA hn
  go_enter Try.func8, Try.ntmps8
  go_wp2_with fail
  refine (HF.out _).mono ?_
  rintro e w1 ⟨t, q, rfl, ht1, ht2, ht3, hq, rfl⟩
  clear HF
  have HE := Lib.hid (fun W => Encode_yes t q W (okB_of ht1 ht3 hq))
  have hsz := encL_size t q
  have HM := Lib.hid (fun bs at_ cs' (h : Spoil (gs (encL t q)) bs at_ (q / 2) cs') => mends_math h (by omega) ht3)
  generalize encL t q = a at HE hsz HM
  have HS := Lib.hid (fun W (hg : Gr w1 W) => spoilt_any a A n c cs (q / 2) W (by omega) (by omega) (by omega) HN.out hl (HA.out.keep hg))
  go_wp2_with fail
  refine (HE.out _).mono ?_
  rintro e w2 ⟨rfl, hg2⟩
  have hq2 : ((q / 2 : Nat) : Int) = (q : Int) / 2 := by omega
  have HS2 := Lib.hid (HS.out _ hg2)
  rw [hq2] at HS2
  clear hq2 HS
  go_wp2_with fail
  refine HS2.out.mono ?_
  rintro e w3 ⟨bs, at_, B, m, cB, rfl, hm, -, hSp, -, hg3⟩
  obtain ⟨m1, m2, m3⟩ := HM.out bs at_ _ hSp
  rw [hm] at m3
  have hbz : (txt bs).size = t.size + q := by rw [txt_size, hSp.len, gs_len, hsz]
  have HD := Lib.hid (fun W => Decode_any (txt bs) q none 0 0 [] W ((okB_iff _ _).2 (by omega)) rfl (by omega) (by intro i hi; cases hi) (Rd_nil _ _) true m1)
  rw [m2, m3] at HD
  clear hm hSp HM m1 m2 m3 hbz hsz
  go_wp2_with fail
  refine (HD.out _).mono ?_
  rintro e w4 ⟨rfl, hg4⟩
  go_wp2_with fail
  refine (awake_any _).mono ?_
  rintro e w5 ⟨rfl, hg5⟩
  go_wp2_with fail
  go_ret
  exact ⟨rfl, ((hg2.trans hg3).trans hg4).trans hg5⟩
end Go.Proofs.Ytbkbgcapkhelhaa
