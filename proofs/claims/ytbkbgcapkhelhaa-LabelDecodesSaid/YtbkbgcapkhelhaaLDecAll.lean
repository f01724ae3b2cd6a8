/- Layer 3: Decode on any arguments. -/
import Derived.Test.YtbkbgcapkhelhaaLShort
import Derived.Test.YtbkbgcapkhelhaaLDecode
namespace Go.Proofs.Ytbkbgcapkhelhaa
open Go.RowKit
set_option linter.unusedSimpArgs false

def badB (s : ByteArray) (p : Int) (m : Nat) (q : List Int) : Bool := (!okB (s.size : Int) p || decide (255 < m)) || !q.all (isPos s.size)
def DecS (s : ByteArray) (p : Int) (m : Nat) (q : List Int) (d : ByteArray) (nn ee : Int) : Prop :=
  (badB s p m q = true → d = ⟨#[]⟩ ∧ nn = 0 ∧ ee = 2) ∧ (badB s p m q = false → ∃ (pn : Nat) (is : List Nat), p = (pn : Int) ∧ okB (s.size : Int) (pn : Int) = true ∧ m ≤ 255 ∧ q = nats is ∧ (∀ i ∈ is, i < s.size) ∧
    (decB s pn is = true → d = txt ((decL s pn is).take (s.size - pn)) ∧ nn = (decN s pn is : Int) ∧ ee = 0) ∧ (decB s pn is = false → d = ⟨#[]⟩ ∧ nn = 0 ∧ ee = 6))
def DecPost (s : ByteArray) (p : Int) (m : Nat) (q : List Int) (w : World) (e : Ending) (w' : World) : Prop :=
  ∃ d nn ee, e = .returned (.tuple #[.string d, .int .i64 nn, .int .i64 ee]) ∧ Gr w w' ∧ DecS s p m q d nn ee
theorem Decode_all (s : ByteArray) (p : Int) (A : Option Addr) (m mc : Nat) (q : List Int) (w : World) (hm : q.length = m) (hl : m ≤ 1048576) (hA : Ints w A q) :
    Calls Try.prog 27 #[.string s, .int .i64 p, .slice A m mc] w (DecPost s p m q w) := by
  rcases hok : okB (s.size : Int) p with _ | _
  · refine (Decode_no1 s p A m mc w hok).mono ?_
    rintro e w' ⟨rfl, hg⟩
    refine ⟨_, _, _, rfl, hg, fun _ => ⟨rfl, rfl, rfl⟩, fun h => ?_⟩
    unfold badB at h; rw [hok] at h; simp at h
  · by_cases h255 : 255 < m
    · refine (Decode_no2 s p A m mc q w hok hm hl hA (Or.inl h255)).mono ?_
      rintro e w' ⟨rfl, hg⟩
      refine ⟨_, _, _, rfl, hg, fun _ => ⟨rfl, rfl, rfl⟩, fun h => ?_⟩
      unfold badB at h; rw [decide_eq_true h255] at h; simp at h
    · rcases hq : q.all (isPos s.size) with _ | _
      · refine (Decode_no2 s p A m mc q w hok hm hl hA (Or.inr hq)).mono ?_
        rintro e w' ⟨rfl, hg⟩
        refine ⟨_, _, _, rfl, hg, fun _ => ⟨rfl, rfl, rfl⟩, fun h => ?_⟩
        unfold badB at h; rw [hq] at h; simp at h
      · have hb := (okB_iff _ _).1 hok
        obtain ⟨pn, rfl⟩ : ∃ pn : Nat, p = (pn : Int) := ⟨p.toNat, by omega⟩
        obtain ⟨h1, h2⟩ := pos_nats hq
        have hbad : badB s (pn : Int) m q = false := by
          unfold badB; rw [hok, decide_eq_false h255, hq]; rfl
        have hD := fun b hb => Decode_any s pn A m mc (q.map Int.toNat) w hok (by rw [List.length_map]; exact hm) (by omega) h2 (by rw [h1]; exact hA) b hb
        rcases hdb : decB s pn (q.map Int.toNat) with _ | _
        · refine (hD false hdb).mono ?_
          rintro e w' ⟨rfl, hg⟩
          refine ⟨_, _, _, rfl, hg, (fun h => by rw [hbad] at h; cases h), fun _ => ⟨pn, q.map Int.toNat, rfl, hok, by omega, h1.symm, h2, (fun h => by rw [hdb] at h; cases h), fun _ => ⟨rfl, rfl, rfl⟩⟩⟩
        · refine (hD true hdb).mono ?_
          rintro e w' ⟨rfl, hg⟩
          refine ⟨_, _, _, rfl, hg, (fun h => by rw [hbad] at h; cases h), fun _ => ⟨pn, q.map Int.toNat, rfl, hok, by omega, h1.symm, h2, (fun _ => ⟨rfl, rfl, rfl⟩), fun h => by rw [hdb] at h; cases h⟩⟩
end Go.Proofs.Ytbkbgcapkhelhaa
