/- Layer 5: a net without its addresses, and what its calls make of it (plain functions). -/
import Derived.Test.YtnoeiocbmhkmeaaPtAD
namespace Go.Proofs.Ytnoeiocbmhkmeaa
set_option linter.unusedSimpArgs false

def dz (d : Dl) : Dl := { d with b := 0, c := 0, g := 0 }
def dzs (l : List (Int × Dl)) : List (Int × Dl) := l.map fun e => (e.1, dz e.2)
def nz (s : Sx) : Sx := { s with opn := dzs s.opn, grt := dzs s.grt, p := 0, mp := 0, mq := 0, mr := 0, mo := 0, mg := 0 }
def nzN (N : Nx) : Nx := ⟨N.sites.map nz, N.mail, N.begun, 0, .slice none 0 0, .slice none 0 0⟩
def dl0 (ps : List Mv) : Dl := ⟨ps, missOf ps, 0, 0, 0⟩
def agrS (s : Sx) (f tx : Int) : Sx := match mget s.opn tx with
  | some d => if (mdel d.miss f).isEmpty then { s with opn := mdel s.opn tx, grt := mput s.grt tx (dl0 d.parts) } else { s with opn := mput s.opn tx { d with miss := mdel d.miss f } }
  | none => s
def agrL (s : Sx) (m : Ml) : List Ml := match mget s.opn m.2.2.2.1 with
  | some d => if (mdel d.miss m.1).isEmpty then wrL s 4 m.2.2.2.1 d.parts else []
  | none => match mget s.grt m.2.2.2.1 with
    | none => [repL s m 5]
    | some d => if (mget d.miss m.1).getD false then [repL s m 4] else []
def otherL (ps : List Mv) (f : Int) : List Mv := ps.filter fun p => p.1 != f
def disS (s : Sx) (tx : Int) : Sx := match mget s.opn tx with
  | some _ => { s with opn := mdel s.opn tx }
  | none => s
def disL (s : Sx) (f tx : Int) : List Ml := match mget s.opn tx with
  | some d => wrL s 5 tx (otherL d.parts f)
  | none => []
def aboS (s : Sx) (tx : Int) : Sx := if (mget s.prom tx).isSome then { s with prom := mdel s.prom tx, drop := mput s.drop tx true } else s
def finS (s : Sx) (f tx : Int) : Sx := match mget s.grt tx with
  | some d => if (mdel d.miss f).isEmpty then { s with grt := mdel s.grt tx } else { s with grt := mput s.grt tx { d with miss := mdel d.miss f } }
  | none => s
def telL (s : Sx) (m : Ml) : List Ml := if (mget s.grt m.2.2.2.1).isSome then [repL s m 4] else if (mget s.opn m.2.2.2.1).isSome then [] else [repL s m 5]
/-- What a site makes of a letter. -/
def han (s : Sx) (m : Ml) : Sx × List Ml :=
  if m.2.2.1 = 1 then (askS s m, askL s m) else if m.2.2.1 = 2 then (agrS s m.1 m.2.2.2.1, agrL s m) else if m.2.2.1 = 3 then (disS s m.2.2.2.1, disL s m.1 m.2.2.2.1)
  else if m.2.2.1 = 4 then (keepS s m.2.2.2.1, keepL s m) else if m.2.2.1 = 5 then (aboS s m.2.2.2.1, []) else if m.2.2.1 = 6 then (finS s m.1 m.2.2.2.1, []) else (s, telL s m)
/-- What a net makes of a letter. -/
def handN (N : Nx) (m : Ml) : Nx := match N.sites[m.2.1.toNat]? with
  | none => N
  | some s => if s.up then { N with sites := N.sites.set m.2.1.toNat (han s m).1, mail := N.mail ++ (han s m).2.take (1024 - N.mail.length) } else N
def delN (N : Nx) (k : Nat) : Nx := match N.mail[k]? with
  | none => N
  | some m => handN { N with mail := N.mail.eraseIdx k } m
def begN (N : Nx) (k : Nat) (ps : List Mv) : Nx := match N.sites[k]? with
  | none => N
  | some s => { N with sites := N.sites.set k { s with opn := s.opn ++ [(N.begun + 1, dl0 ps)] }, mail := N.mail ++ (wrL s 1 (N.begun + 1) ps).take (1024 - N.mail.length), begun := N.begun + 1 }

theorem mget_dz (l : List (Int × Dl)) (a : Int) : mget (dzs l) a = (mget l a).map dz := by
  unfold mget dzs
  rw [List.find?_map, Option.map_map, Option.map_map]
  rfl
theorem mdel_dz (l : List (Int × Dl)) (a : Int) : mdel (dzs l) a = dzs (mdel l a) := by
  unfold mdel dzs
  rw [List.filter_map]
  rfl
theorem mput_dz (l : List (Int × Dl)) (a : Int) (d : Dl) : mput (dzs l) a (dz d) = dzs (mput l a d) := by
  unfold mput
  rw [mget_dz, Option.isSome_map]
  split
  · unfold dzs
    rw [List.map_map, List.map_map]
    apply List.map_congr_left
    intro e _
    simp only [Function.comp]
    split <;> rfl
  · unfold dzs; rw [List.map_append]; rfl
theorem askS_nz (s : Sx) (m : Ml) : askS (nz s) m = nz (askS s m) := by
  unfold askS
  show (if outS s m.2.2.2.1 ≠ 0 then nz s else if posS s m.2.2.2.2 then _ else _) = _
  repeat' split
  all_goals rfl
theorem keepS_nz (s : Sx) (tx : Int) : keepS (nz s) tx = nz (keepS s tx) := by
  unfold keepS
  show (if (mget s.prom tx).isSome then _ else nz s) = _
  split <;> rfl
theorem aboS_nz (s : Sx) (tx : Int) : aboS (nz s) tx = nz (aboS s tx) := by
  unfold aboS
  show (if (mget s.prom tx).isSome then _ else nz s) = _
  split <;> rfl
theorem keepL_nz (s : Sx) (m : Ml) : keepL (nz s) m = keepL s m := by
  unfold keepL
  rw [keepS_nz]
  rfl
theorem agrS_nz (s : Sx) (f tx : Int) : agrS (nz s) f tx = nz (agrS s f tx) := by
  unfold agrS
  show (match mget (dzs s.opn) tx with | some d => _ | none => nz s) = _
  rw [mget_dz]
  cases mget s.opn tx with
  | none => rfl
  | some d =>
    dsimp only [Option.map_some]
    show (if (mdel d.miss f).isEmpty then ({ nz s with opn := mdel (dzs s.opn) tx, grt := mput (dzs s.grt) tx (dz (dl0 d.parts)) } : Sx) else { nz s with opn := mput (dzs s.opn) tx (dz { d with miss := mdel d.miss f }) }) = _
    split
    · rw [mdel_dz, mput_dz]; rfl
    · rw [mput_dz]; rfl
theorem agrL_nz (s : Sx) (m : Ml) : agrL (nz s) m = agrL s m := by
  unfold agrL
  show (match mget (dzs s.opn) m.2.2.2.1 with | some d => _ | none => (match mget (dzs s.grt) m.2.2.2.1 with | none => _ | some d => _)) = _
  rw [mget_dz, mget_dz]
  cases mget s.opn m.2.2.2.1 with
  | none =>
    cases mget s.grt m.2.2.2.1 <;> rfl
  | some d => rfl
theorem disS_nz (s : Sx) (tx : Int) : disS (nz s) tx = nz (disS s tx) := by
  unfold disS
  show (match mget (dzs s.opn) tx with | some d => ({ nz s with opn := mdel (dzs s.opn) tx } : Sx) | none => nz s) = _
  rw [mget_dz, mdel_dz]
  cases mget s.opn tx <;> rfl
theorem disL_nz (s : Sx) (f tx : Int) : disL (nz s) f tx = disL s f tx := by
  unfold disL
  show (match mget (dzs s.opn) tx with | some d => _ | none => _) = _
  rw [mget_dz]
  cases mget s.opn tx <;> rfl
theorem finS_nz (s : Sx) (f tx : Int) : finS (nz s) f tx = nz (finS s f tx) := by
  unfold finS
  show (match mget (dzs s.grt) tx with | some d => _ | none => nz s) = _
  rw [mget_dz]
  cases mget s.grt tx with
  | none => rfl
  | some d =>
    dsimp only [Option.map_some]
    show (if (mdel d.miss f).isEmpty then ({ nz s with grt := mdel (dzs s.grt) tx } : Sx) else { nz s with grt := mput (dzs s.grt) tx (dz { d with miss := mdel d.miss f }) }) = _
    split
    · rw [mdel_dz]; rfl
    · rw [mput_dz]; rfl
theorem telL_nz (s : Sx) (m : Ml) : telL (nz s) m = telL s m := by
  unfold telL
  show (if (mget (dzs s.grt) m.2.2.2.1).isSome then _ else if (mget (dzs s.opn) m.2.2.2.1).isSome then _ else _) = _
  rw [mget_dz, mget_dz, Option.isSome_map, Option.isSome_map]
  rfl
theorem han_nz (s : Sx) (m : Ml) : han (nz s) m = (nz (han s m).1, (han s m).2) := by
  unfold han
  rw [askS_nz, agrS_nz, agrL_nz, disS_nz, disL_nz, keepS_nz, keepL_nz, aboS_nz, finS_nz, telL_nz, show askL (nz s) m = askL s m from rfl]
  repeat' split
  all_goals rfl
theorem nz_len (N : Nx) : (nzN N).sites.length = N.sites.length := by unfold nzN; simp
theorem nz_site {N : Nx} {k : Nat} {s : Sx} (h : N.sites[k]? = some s) : (nzN N).sites[k]? = some (nz s) := by
  show (N.sites.map nz)[k]? = _
  rw [List.getElem?_map, h]; rfl
theorem refS_nz (N : Nx) (i : Int) : refS (nzN N) i = refS N i := by unfold refS; rw [nz_len]
theorem refL_nz (N : Nx) (i : Int) : refL (nzN N) i = refL N i := by unfold refL; rw [nz_len]; rfl
theorem refD_nz (N : Nx) (i : Int) : refD (nzN N) i = refD N i := by
  unfold refD
  rw [refS_nz]
  show (if refS N i ≠ 0 then _ else if ((N.sites.map nz)[i.toNat]?.map (·.up)).getD true then _ else _) = _
  rw [List.getElem?_map, Option.map_map]
  rfl
theorem stockN_nz (N : Nx) (i : Int) : stockN (nzN N) i = stockN N i := by
  unfold stockN
  rw [refS_nz]
  show (if refS N i ≠ 0 then 0 else ((N.sites.map nz)[i.toNat]?.map (·.stock)).getD 0) = _
  rw [List.getElem?_map, Option.map_map]
  rfl
theorem okFrom_nz (N : Nx) : ∀ (ps : List Mv) (seen : List Int) (sm : Int), okFrom (nzN N) seen sm ps = okFrom N seen sm ps
  | [], _, _ => rfl
  | p :: r, seen, sm => by
    unfold okFrom
    rw [refS_nz, okFrom_nz N r]
theorem okTx_nz (N : Nx) (ps : List Mv) : okTx (nzN N) ps = okTx N ps := by unfold okTx; rw [okFrom_nz]
theorem setS_nz (s : Sx) : setS (nz s) = setS s := by
  unfold setS
  show ((dzs s.opn).isEmpty && (dzs s.grt).isEmpty && s.prom.isEmpty) = _
  unfold dzs
  rw [List.isEmpty_map, List.isEmpty_map]
theorem settledN_nz (N : Nx) : settledN (nzN N) = settledN N := by
  unfold settledN
  show (N.mail.isEmpty && (N.sites.map nz).all setS) = _
  rw [List.all_map]
  congr 1
  apply List.all_congr rfl
  intro s
  exact setS_nz s
theorem nz_nz (N : Nx) : nzN (nzN N) = nzN N := by
  unfold nzN
  dsimp only
  rw [List.map_map]
  congr 1
  apply List.map_congr_left
  intro s _
  simp only [Function.comp]
  unfold nz dzs
  simp only [List.map_map]
  rfl
/-- A site turned, letters and a number. -/
theorem nz_set (N : Nx) (k : Nat) (s' : Sx) (ml : List Ml) (lv : Value) (b : Int) (p : Nat) (sv : Value) : nzN ⟨N.sites.set k s', ml, b, p, sv, lv⟩ = { nzN N with sites := (nzN N).sites.set k (nz s'), mail := ml, begun := b } := by
  unfold nzN
  dsimp only
  rw [List.map_set]
theorem nz_mail (N : Nx) (ml : List Ml) (lv : Value) : nzN { N with mail := ml, lv := lv } = { nzN N with mail := ml } := rfl
theorem handN_nz (N : Nx) (m : Ml) : handN (nzN N) m = nzN (handN N m) := by
  unfold handN
  show (match (N.sites.map nz)[m.2.1.toNat]? with | none => nzN N | some s => if s.up then ({ nzN N with sites := (nzN N).sites.set m.2.1.toNat (han s m).1, mail := N.mail ++ (han s m).2.take (1024 - N.mail.length) } : Nx) else nzN N) = _
  rw [List.getElem?_map]
  cases N.sites[m.2.1.toNat]? with
  | none => rfl
  | some s =>
    dsimp only [Option.map_some]
    show (if s.up then _ else _) = _
    rw [han_nz]
    dsimp only
    split
    · exact (nz_set N m.2.1.toNat (han s m).1 _ N.lv N.begun N.p N.sv).symm
    · rfl
theorem delN_nz (N : Nx) (k : Nat) : delN (nzN N) k = nzN (delN N k) := by
  unfold delN
  show (match N.mail[k]? with | none => nzN N | some m => handN (nzN { N with mail := N.mail.eraseIdx k }) m) = _
  cases N.mail[k]? with
  | none => rfl
  | some m => exact handN_nz _ m
theorem begN_nz (N : Nx) (k : Nat) (ps : List Mv) : begN (nzN N) k ps = nzN (begN N k ps) := by
  unfold begN
  show (match (N.sites.map nz)[k]? with | none => nzN N | some s => ({ nzN N with sites := (nzN N).sites.set k { s with opn := s.opn ++ [(N.begun + 1, dl0 ps)] }, mail := N.mail ++ (wrL s 1 (N.begun + 1) ps).take (1024 - N.mail.length), begun := N.begun + 1 } : Nx)) = _
  rw [List.getElem?_map]
  cases N.sites[k]? with
  | none => rfl
  | some s =>
    dsimp only [Option.map_some]
    refine Eq.trans ?_ (nz_set N k { s with opn := s.opn ++ [(N.begun + 1, dl0 ps)] } _ N.lv (N.begun + 1) N.p N.sv).symm
    congr 2
    unfold nz dzs
    simp [dl0, dz]

end Go.Proofs.Ytnoeiocbmhkmeaa
