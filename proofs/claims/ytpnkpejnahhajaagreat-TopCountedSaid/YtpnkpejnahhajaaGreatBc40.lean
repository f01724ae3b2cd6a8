/- Layer 4: slots sorted. -/
import Derived.Test.YtpnkpejnahhajaaGreatBc39
namespace Go.Proofs.YtpnkpejnahhajaaGreat
open Go.RowKit Go.Shelf Go.Lib Go.Sort
set_option linter.unusedSimpArgs false

def enc4B (x : Sl) : List Value := [.int .i64 x.1, .int .i64 x.2.1, .int .i64 x.2.2.1, .int .i64 x.2.2.2]
theorem enc4_len (x : Sl) : (enc4B x).length = 4 := rfl
theorem enc4_one (x : Sl) : ∀ u ∈ enc4B x, u.oneCell' = true := by intro u hu; simp [enc4B] at hu; rcases hu with rfl | rfl | rfl | rfl <;> rfl
theorem Tryz.infoBnT : (Tryz.prog.info? 35).map (fun i => (i.zero, i.size, i.bytes)) = some (some (.agg #[.int .i64 0, .int .i64 0, .int .i64 0, .int .i64 0]), 4, 32) := by kernel_rfl

theorem flatK4_get (sl : List Sl) {i t : Nat} (hi : i < sl.length) (ht : t < 4) : (flatK enc4B 4 sl.toArray)[i * 4 + t]! = (enc4B (sl.getD i (0, 0, 0, 0)))[t]! := by
  rw [get_flatK _ _ _ _ (by simp; omega), show (i * 4 + t) / 4 = i by omega, show (i * 4 + t) % 4 = t by omega]
  congr 2
  rw [getElem!_pos _ _ (by simpa using hi), List.getD_eq_getElem?_getD, List.getElem?_eq_getElem hi]
  simp
theorem holdsK4 {w : World} {g c base n : Nat} {sl : List Sl} (hn : sl.length = n) (ho : w.ownsRow base 35 4 (.slice (some ⟨g, 0, none⟩) n c) n (flatE enc4B sl)) : HoldsK enc4B 4 w g 0 sl.toArray := fun j hj => by
  have hj' : j < sl.length * 4 := by simpa using hj
  have hR := Rd_of_owns enc4_len hn ho
  obtain ⟨b, off, e, hc⟩ := hR (j / 4) _ (getD_of (0, 0, 0, 0) (by omega))
  cases e
  obtain ⟨cur, hb⟩ : ∃ cur, Blk w g 35 cur := by
    rcases ho.2 with ⟨e, _⟩ | ⟨g', cap, cur, e, _, hb, _⟩
    · cases e
    · injection e with e _ _; injection e with e; injection e with e; subst e; exact ⟨cur, hb⟩
  refine ⟨?_, hb.free _⟩
  have e1 := flatK4_get sl (i := j / 4) (t := j % 4) (by omega) (by omega)
  rw [show j / 4 * 4 + j % 4 = j by omega] at e1
  rw [e1]
  have hlt : j % 4 < (enc4B (sl.getD (j / 4) (0, 0, 0, 0))).length := by rw [enc4_len]; omega
  have := hc (j % 4) _ (List.getElem?_eq_getElem hlt)
  rw [show 0 + j / 4 * 4 + j % 4 = 0 + j by omega] at this
  rw [this, getElem!_pos (enc4B (sl.getD (j / 4) (0, 0, 0, 0))) (j % 4) hlt]
  rfl
theorem rd_holdsK4 {w : World} {g : Nat} {sl : List Sl} (h : HoldsK enc4B 4 w g 0 sl.toArray) : Rd 4 enc4B w (some ⟨g, 0, none⟩) sl := fun i x hx => by
  obtain ⟨hi, hx'⟩ := List.getElem?_eq_some_iff.1 hx
  refine ⟨g, 0, rfl, fun t v hv => ?_⟩
  have ht : t < 4 := by have := (List.getElem?_eq_some_iff.1 hv).1; rw [enc4_len] at this; exact this
  have hj := (h (i * 4 + t) (by simp; omega)).1
  rw [flatK4_get sl hi ht] at hj
  rw [show 0 + i * 4 + t = 0 + (i * 4 + t) by omega, hj]
  have hlt : t < (enc4B x).length := by rw [enc4_len]; exact ht
  rw [show sl.getD i (0, 0, 0, 0) = x by rw [List.getD_eq_getElem?_getD, hx]; rfl, getElem!_pos (enc4B x) t hlt]
  rw [List.getElem?_eq_getElem hlt] at hv
  exact hv
theorem gr_sortK {w : World} {g n : Nat} {d : Array Sl} {os : Array Obj} {w0 : World} (h : Gr w0 w) (hg : w0.heap.size ≤ g) : Gr w0 (sortWorldK enc4B 4 w g 0 n d os) := by
  have hb : Gb g w (sortWorldK enc4B 4 w g 0 n d os) := by
    refine ⟨rfl, rfl, rfl, ?_, fun i hi hn => ?_⟩
    · show w.heap.size ≤ ((w.heap.modify g _) ++ os).size
      simp
    · show ((w.heap.modify g _) ++ os)[i]? = w.heap[i]?
      rw [Array.getElem?_append_left (by simpa using hi), Array.getElem?_modify, if_neg (fun e => hn (by rw [e]))]
  exact hb.gr h hg

/-- Block g may be written. -/
def Un (w : World) (g : Nat) : Prop := (∀ o, w.frozen? ⟨g, o, none⟩ = false) ∧ g < w.heap.size
theorem Un.of {w : World} {g : Nat} {t : TypeId} {cs : Array Value} (h : Blk w g t cs) : Un w g := ⟨fun o => h.free o, h.lt⟩
theorem Un.sortK {w : World} {g n : Nat} {cur : Array Value} {t : TypeId} (d : Array Sl) (os : Array Obj) (h : w.heap[g]? = some (.cells cur t (0, 0))) : Un (sortWorldK enc4B 4 w g 0 n d os) g := by
  have hlt : g < w.heap.size := (Array.getElem?_eq_some_iff.1 h).1
  have e : (sortWorldK enc4B 4 w g 0 n d os).heap[g]? = Option.map (onCells (putCells id 0 (flatK enc4B 4 d))) w.heap[g]? := by
    show ((w.heap.modify g (onCells (putCells id 0 (flatK enc4B 4 d)))) ++ os)[g]? = _
    rw [Array.getElem?_append_left (by simpa using hlt), Array.getElem?_modify, if_pos rfl]
  rw [h] at e
  have : ∃ cs, (sortWorldK enc4B 4 w g 0 n d os).heap[g]? = some (.cells cs t (0, 0)) := ⟨_, e⟩
  obtain ⟨cs, h'⟩ := this
  have h2 : Blk (sortWorldK enc4B 4 w g 0 n d os) g t cs := h'
  exact Un.of h2
theorem Un.keep {w w' : World} {g : Nat} (h : Un w g) (hg : Gr w w') : Un w' g := ⟨fun o => (Below.frozen (p := ⟨g, o, none⟩) hg h.2).trans (h.1 o), Nat.lt_of_lt_of_le h.2 hg.size⟩
theorem Un.put {w : World} {g : Nat} (h : Un w g) (p : Addr) (u : Value) : Un (w.setCell p u) g := ⟨fun o => by rw [frozen_put]; exact h.1 o, by simpa [World.setCell] using h.2⟩
/-- A list of the call's own: nil, or a block that is new and may be written. -/
def Fresh (b0 : Nat) (w : World) (A : Option Addr) (k c : Nat) : Prop := (A = none ∧ k = 0 ∧ c = 0) ∨ ∃ g, A = some ⟨g, 0, none⟩ ∧ b0 ≤ g ∧ k ≤ c ∧ Un w g
section
variable {b0 b1 k c : Nat} {w w' : World} {A : Option Addr}
theorem Fresh.keep (h : Fresh b0 w A k c) (hg : Gr w w') : Fresh b0 w' A k c := h.imp id fun ⟨g, h1, h2, h3, h4⟩ => ⟨g, h1, h2, h3, h4.keep hg⟩
theorem Fresh.put (h : Fresh b0 w A k c) (p : Addr) (u : Value) : Fresh b0 (w.setCell p u) A k c := h.imp id fun ⟨g, h1, h2, h3, h4⟩ => ⟨g, h1, h2, h3, h4.put p u⟩
theorem Fresh.base (h : Fresh b0 w A k c) (hb : b1 ≤ b0) : Fresh b1 w A k c := h.imp id fun ⟨g, h1, h2, h3, h4⟩ => ⟨g, h1, Nat.le_trans hb h2, h3, h4⟩
theorem Fresh.nil (h : Fresh b0 w A k c) (e : A = none) : k = 0 ∧ c = 0 := by
  rcases h with ⟨_, h⟩ | ⟨g, h, _⟩
  · exact h
  · rw [e] at h; cases h
theorem Fresh.spot (h : Fresh b0 w A k c) : ∀ a, A = some a → a.spot = none := fun a e => by
  rcases h with ⟨h, _⟩ | ⟨g, h, _⟩
  · rw [e] at h; cases h
  · rw [e] at h; injection h with h; rw [h]
theorem Fresh.le (h : Fresh b0 w A k c) : k ≤ c := by
  rcases h with ⟨_, h, h'⟩ | ⟨g, _, _, h, _⟩
  · omega
  · exact h
theorem Fresh.of {e : TypeId} {size n : Nat} {xs : List Value} (hn : n = k) (h : w.ownsRow b0 e size (.slice A k c) n xs) : Fresh b0 w A k c := by
  subst hn
  rcases h.2 with ⟨hv, hz⟩ | ⟨g, cap, cur, hv, hb, hg, hc, _⟩
  · injection hv with h1 h2 h3
    exact Or.inl ⟨h1, h2, h3⟩
  · injection hv with h1 h2 h3
    subst h3
    have h2 : Blk w g e cur := hg
    exact Or.inr ⟨g, h1, hb, hc, Un.of h2⟩
end

set_option maxHeartbeats 1000000 in
/-- Sorting by benches. -/
theorem sortS_bench (g c base n ob : Nat) (sl : List Sl) (w : World) (hn : sl.length = n) (hl : n ≤ 4096) (hob : ob ≠ g) (hc : w.cell? ⟨ob, 0, none⟩ = some (.func (.func 77) #[] #[])) (ho : w.ownsRow base 35 4 (.slice (some ⟨g, 0, none⟩) n c) n (flatE enc4B sl)) {w0 : World} (h0 : Gr w0 w) (hg : w0.heap.size ≤ g) (hgl : g < w.heap.size) :
    Calls Tryz.prog 117 #[.slice (some ⟨g, 0, none⟩) n c, .func (.func 118) #[] #[.pointer (some ⟨ob, 0, none⟩)]] w fun e w' => e = .returned (.tuple #[]) ∧ ∃ sl' : List Sl, sl'.length = n ∧ sl'.Perm sl ∧ Rd 4 enc4B w' (some ⟨g, 0, none⟩) sl' ∧ sl'.Pairwise (fun x y => ltOf (cfS fun x => x.2.1) y x = false) ∧ Gr w0 w' ∧ Un w' g := by
  have hun : ∃ cur t, w.heap[g]? = some (.cells cur t (0, 0)) := by
    rcases ho.2 with ⟨hv, _⟩ | ⟨g', cap, cur, hv, _, hg', _⟩
    · cases hv
    · injection hv with h1 _ _
      injection h1 with h1
      injection h1 with h1
      subst h1
      exact ⟨_, _, hg'⟩
  obtain ⟨cur0, t0, hun⟩ := hun
  have eg : ∀ args w, (callFunc 118 args).run Tryz.prog w = .ok (.enter 118 args) w := enters_of Tryz.func118 (by kernel_rfl) rfl
  have aE : ∀ w, (isAgg (Try.sortSlots_ren.t 24)).run Tryz.prog w = .ok true w := fun w => by kernel_rfl
  have zE : ∀ w, (Go.sizeOf (Try.sortSlots_ren.t 24)).run Tryz.prog w = .ok 4 w := fun w => by kernel_rfl
  have hH := holdsK4 hn ho
  have hcmp : CmpLays Tryz.prog 118 #[.pointer (some ⟨ob, 0, none⟩)] enc4B 4 (cfS fun x => x.2.1) g 0 sl.toArray.size w := fun m os dk hdk x y => by
    refine (cmp_benchOf ob x y _ ?_).mono fun e w' ⟨he, q, os', hw⟩ => ⟨he, q, os', hw⟩
    have hlt := World.block_lt_of_cell? w _ hc
    have hb : (sortWorldK enc4B 4 w g 0 m dk os).heap[ob]? = w.heap[ob]? := by
      show ((w.heap.modify g _) ++ os)[ob]? = w.heap[ob]?
      rw [Array.getElem?_append_left (by simpa using hlt), Array.getElem?_modify, if_neg (fun e => hob e.symm)]
    rw [← hc]
    unfold World.cell?
    simp only [hb]
  have h := AnyQ.slices_SortFunc Try.sortSlots 4 aE zE enc4B enc4_len enc4_one (cfS fun x => x.2.1) (swoS _) 118 #[.pointer (some ⟨ob, 0, none⟩)] g 0 c sl.toArray w eg hcmp hH hgl (by simp; omega)
  change Calls Tryz.prog 117 _ _ _ at h
  have e : sl.toArray.size = n := by simp [hn]
  rw [e] at h
  refine h.mono ?_
  rintro e w' ⟨rfl, d', k, os, hp, hs, rfl⟩
  have hsz : d'.size = n := by have := hp.1; rw [this]; simp [hn]
  refine ⟨rfl, d'.toList, by simp [hsz], ?_, ?_, ?_, gr_sortK h0 hg, Un.sortK _ _ hun⟩
  · have := hp.2.2
    have ex1 : d'.extract 0 n = d' := by rw [← hsz]; simp
    have ex2 : sl.toArray.extract 0 n = sl.toArray := by rw [← hn]; simp
    rw [ex1, ex2] at this
    simpa using this
  · have h1 : HoldsK enc4B 4 (Sort.ahead w k) g 0 sl.toArray := hH
    have h2 := holds_putRow id (Sort.ahead w k) g 0 _ (flatK enc4B 4 d') h1 (by simp [hsz, hn])
    have h3 := holds_grow id _ os g 0 _ (by show g < (Array.modify _ _ _).size; simpa using hgl) h2
    refine rd_holdsK4 (sl := d'.toList) ?_
    have e : d'.toList.toArray = d' := by simp
    rw [e]
    exact h3
  · refine List.pairwise_iff_getElem.2 fun i j hi hj hij => ?_
    have hi' : i < d'.size := by simpa using hi
    have hj' : j < d'.size := by simpa using hj
    have := hs i j (Nat.zero_le _) hij (by omega)
    rw [getElem!_pos d' i hi', getElem!_pos d' j hj'] at this
    simpa using this

set_option maxRecDepth 100000 in
set_option maxHeartbeats 1000000 in
theorem inOrder_any (fn : Nat) (w : World) : Calls Tryz.prog 76 #[.func (.func fn) #[] #[]] w fun e w' => ∃ ob, e = .returned (.func (.func 118) #[] #[.pointer (some ⟨ob, 0, none⟩)]) ∧ w'.cell? ⟨ob, 0, none⟩ = some (.func (.func fn) #[] #[]) ∧ w.heap.size ≤ ob ∧ Gr w w' := by
  go_enter Tryz.func76, Tryz.ntmps76
  go_wp2_with fail
  go_ret
  exact ⟨w.heap.size, rfl, alloc_new rfl rfl, Nat.le_refl _, (Gr.refl w).alloc _⟩

def CloneSPost (ns : List Sl) (w : World) (e : Ending) (w' : World) : Prop :=
  ∃ g c, e = .returned (.slice (some ⟨g, 0, none⟩) ns.length c) ∧ ns.length ≤ c ∧ w.heap.size ≤ g ∧ g < w'.heap.size ∧ w'.ownsRow w.heap.size 35 4 (.slice (some ⟨g, 0, none⟩) ns.length c) ns.length (flatE enc4B ns) ∧ Gr w w'

set_option maxHeartbeats 1000000 in
theorem cloneS_any (b off n c : Nat) (ns : List Sl) (w : World) (hn : ns.length = n) (hl : n ≤ 4096) (hp : Rd 4 enc4B w (some ⟨b, off, none⟩) ns) :
    Calls Tryz.prog 116 #[.slice (some ⟨b, off, none⟩) n c] w (CloneSPost ns w) := by
  obtain ⟨i0, hi, hz0, hz1, hz2⟩ := info_parts Tryz.infoBnT
  have q : ∀ (w : World) (a : Option Addr) (n c n' c' : Nat), (binOp .eql 25 (.slice a n c) (.slice none n' c')).run Tryz.prog w = .ok (.bool a.isNone) w := fun w a n c n' c' => Lib.run_eql_slice_nil w _ _ a n c n' c' Tryz.underlying25
  have HN := Lib.hid hn
  have HP := Lib.hid hp
  clear hn hp
  go_enter Tryz.func116, Tryz.ntmps116
  go_wp2_with (at_builtin; refine wpList_append_own _ rfl _ _ 25 rfl w.heap.size 35 i0 _ 4 32 Tryz.underlying25 hi hz0 hz1 hz2 rfl (by decide) _ _ _ rfl (World.ownsRow_made w #[] 0 (Nat.le_refl _) (Nat.zero_le _) (by simp)) ⟨b, off, none⟩ n c (flatE enc4B ns) rfl ?qc1 ?qc2 ?qc3 ?qc4 ?qc5 ?qc6 ?_)
  case qc1 => rw [flatE_len enc4_len, HN.out]
  case qc2 =>
    intro j u hj
    rw [Addr.add_lit]
    exact alloc_old (flatE_cells enc4_len (by decide) HP.out j u hj)
  case qc3 => exact oneCell_flat enc4_one ns
  case qc4 => unfold maxLen; omega
  case qc5 => omega
  case qc6 => simp
  intro v' w1 hown hgrow hnil
  have hown' : w1.ownsRow w.heap.size 35 4 v' n (flatE enc4B ns) := by simpa using hown
  have HO := Lib.hid hown'
  have HG := Lib.hid hgrow
  have HNIL := Lib.hid hnil
  clear hown hgrow hnil hi hz0 hz1 hz2 q hown'
  go_wp2
  go_ret
  rcases HO.out.2 with ⟨ev, _⟩ | ⟨g, cap, cur, rfl, hg, hgb, hnc, _⟩
  · exact (HNIL.out ev).elim
  · refine ⟨g, cap, by rw [HN.out]; rfl, by rw [HN.out]; exact hnc, hg, (Array.getElem?_eq_some_iff.1 hgb).1, by rw [HN.out]; exact HO.out, ?_⟩
    exact ((Below.refl _ w).alloc (Nat.le_refl _) _).grown HG.out (by simp) (by intro k hk; simp [Value.ownBlock] at hk; omega)

set_option maxRecDepth 100000 in
set_option maxHeartbeats 1000000 in
theorem sortedS_bench (b off n c ob : Nat) (ns : List Sl) (w : World) (hn : ns.length = n) (hl : n ≤ 4096) (hc : w.cell? ⟨ob, 0, none⟩ = some (.func (.func 77) #[] #[])) (hp : Rd 4 enc4B w (some ⟨b, off, none⟩) ns) :
    Calls Tryz.prog 75 #[.slice (some ⟨b, off, none⟩) n c, .func (.func 118) #[] #[.pointer (some ⟨ob, 0, none⟩)]] w fun e w' => ∃ g c' sl, e = .returned (.slice (some ⟨g, 0, none⟩) n c') ∧ sl.length = n ∧ List.Perm sl ns ∧ Rd 4 enc4B w' (some ⟨g, 0, none⟩) sl ∧ sl.Pairwise (fun x y => ltOf (cfS fun x => x.2.1) y x = false) ∧ w.heap.size ≤ g ∧ Gr w w' ∧ (n ≤ c' ∧ Un w' g) := by
  have HC := Lib.hid (cloneS_any b off n c ns w hn hl hp)
  have HN := Lib.hid hn
  have HO := Lib.hid hc
  have hob := World.block_lt_of_cell? w _ hc
  clear hn hp hc
  go_enter Tryz.func75, Tryz.ntmps75
  go_wp2_with fail
  refine HC.out.mono ?_
  rintro e w1 ⟨g, c1, rfl, hcc, hg, hgl, hown, hgr⟩
  rw [HN.out] at hown hcc ⊢
  have HS := Lib.hid (sortS_bench g c1 w.heap.size n ob ns w1 HN.out hl (by omega) (hgr.keep HO.out) hown (w0 := w) hgr hg hgl)
  clear hown HC
  go_wp2_with fail
  refine HS.out.mono ?_
  rintro e w2 ⟨rfl, sl, h1, h2, h3, h4, h5, h6⟩
  have HR := Lib.hid (And.intro h1 (And.intro h2 (And.intro h3 (And.intro h4 (And.intro h5 h6)))))
  have HCC := Lib.hid hcc
  clear h1 h2 h3 h4 h5 h6 HS hcc
  go_wp2_with fail
  go_ret
  obtain ⟨h1, h2, h3, h4, h5, h6⟩ := HR.out
  exact ⟨g, c1, sl, rfl, h1, h2, h3, h4, hg, h5, HCC.out, h6⟩

end Go.Proofs.YtpnkpejnahhajaaGreat
