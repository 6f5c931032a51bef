/-
  The contract of the model's pairing of two series.
-/
import Derived.Test.YtjloadllckllpaaGreatDoorAddP
namespace Go.Proofs.YtjloadllckllpaaGreatDoor
open Go.RowKit

/-- a new box, as a drawn region leaves it -/
def FCut (w1 : World) (P Q : Int) (v8 : Value) (wy : World) : Prop :=
  ∃ g, v8 = .pointer (some ⟨g, 0, none⟩) ∧ w1.heap.size ≤ g ∧ Below w1.heap.size w1 wy ∧ Box2 wy g P Q
def FCut2 (w1 : World) (N D : Int) (ok : Bool) (v9 v10 : Value) (wy : World) : Prop := FCut w1 N D v9 wy ∧ v10 = .bool ok
/-- what pairing comes to -/
def pairR (r : Option (Int × Int)) : Int × Int × Bool := match r with | none => (0, 0, false) | some a => (a.1, a.2, true)
def PairPost (r : Option (Int × Int)) (W : World) (e : Ending) (w' : World) : Prop := e = .returned (.tuple #[.agg #[.int .i64 (pairR r).1, .int .i64 (pairR r).2.1], .bool (pairR r).2.2]) ∧ Below W.heap.size W w'
def PairAt (ys xs : List Tm) (k : Nat) (a b : Int) : Prop := pairL ys (xs.drop k) (a, b) = pairL ys xs (0, 1) ∧ isF a b = true
theorem ser_fr {L V : Int} {ts : List Tm} (h : serB L V ts = true) : ∀ t ∈ ts, isF t.n t.d = true := fun t ht => by
  have e := ser_term h t ht
  simp only [termB, Bool.and_eq_true] at e
  exact e.2.1
theorem least_at (p : Nat → Prop) : ∀ (f a m : Nat), m = a + f → p m → ∃ n, a ≤ n ∧ n ≤ m ∧ p n ∧ ∀ j, a ≤ j → j < n → ¬ p j
  | 0, a, m, e, h => ⟨m, by omega, Nat.le_refl _, h, fun j h1 h2 => by omega⟩
  | f + 1, a, m, e, h => by
    by_cases ha : p a
    · exact ⟨a, Nat.le_refl _, by omega, ha, fun j h1 h2 => by omega⟩
    · obtain ⟨n, h1, h2, h3, h4⟩ := least_at p f (a + 1) m (by omega) h
      exact ⟨n, by omega, h2, h3, fun j hj1 hj2 => by
        by_cases hj : j = a
        · subst hj; exact ha
        · exact h4 j (by omega) hj2⟩
theorem valL_isF {L V : Int} {ys : List Tm} (h : serB L V ys = true) (s : ByteArray) : isF (valL s.data.toList ys).1 (valL s.data.toList ys).2 = true := by
  by_cases he : ∃ i, ∃ (hi : i < ys.length), (ys[i]).s = s
  · obtain ⟨i, hi, rfl⟩ := he
    obtain ⟨j, hj, hv⟩ : ∃ j, ∃ (hj : j < ys.length), valL (ys[i]).s.data.toList ys = ((ys[j]).n, (ys[j]).d) := by
      obtain ⟨j, _, hj2, hj3, hj4⟩ := least_at (fun j => ∃ hj : j < ys.length, (ys[j]).s = (ys[i]).s) i 0 i (by omega) ⟨hi, rfl⟩
      obtain ⟨hjl, he⟩ := hj3
      exact ⟨j, hjl, valL_at ys j hjl (fun m hm hmj e => hj4 m (Nat.zero_le _) hmj ⟨hm, data_eq e⟩) (by rw [he])⟩
    rw [hv]
    exact ser_fr h _ (List.getElem_mem hj)
  · rw [valL_none ys (fun j hj e => he ⟨j, hj, data_eq e⟩)]
    exact isF_zero_one

end Go.Proofs.YtjloadllckllpaaGreatDoor
