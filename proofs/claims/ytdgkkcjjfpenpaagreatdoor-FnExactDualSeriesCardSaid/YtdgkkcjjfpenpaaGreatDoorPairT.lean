/-
  The contract of the model's pairing of two series.
  Contracts of PairSeries, of the program and of its model.
-/
import Derived.Test.YtdgkkcjjfpenpaaGreatDoorAddP
namespace Go.Proofs.YtdgkkcjjfpenpaaGreatDoor
open Go.RowKit

/-- a new box, as a drawn region leaves it -/
def FCut (w1 : World) (P Q : Int) (v8 : Value) (wy : World) : Prop :=
  ∃ g, v8 = .pointer (some ⟨g, 0, none⟩) ∧ w1.heap.size ≤ g ∧ Below w1.heap.size w1 wy ∧ Box2 wy g P Q
def FCut2 (w1 : World) (N D : Int) (ok : Bool) (v9 v10 : Value) (wy : World) : Prop := FCut w1 N D v9 wy ∧ v10 = .bool ok
/-- what pairing comes to -/
def pairR (r : Option (Int × Int)) : Int × Int × Bool := match r with | none => (0, 0, false) | some a => (a.1, a.2, true)
def PairPost (r : Option (Int × Int)) (W : World) (e : Ending) (w' : World) : Prop := e = .returned (.tuple #[.agg #[.int .i64 (pairR r).1, .int .i64 (pairR r).2.1], .bool (pairR r).2.2]) ∧ Below W.heap.size W w'
def PairAt (ys xs : List Tm) (k : Nat) (a b : Int) : Prop := pairL ys (xs.drop k) (a, b) = pairL ys xs (0, 1) ∧ isF a b = true
theorem ser_fr {L V : Int} {ts : List Tm} (h : serB L V ts = true) : ∀ t ∈ ts, isF t.n t.d = true := fun t ht => by
  have e := ser_term h t ht
  simp only [termB, Bool.and_eq_true] at e
  exact e.2.1
theorem least_at (p : Nat → Prop) : ∀ (f a m : Nat), m = a + f → p m → ∃ n, a ≤ n ∧ n ≤ m ∧ p n ∧ ∀ j, a ≤ j → j < n → ¬ p j
  | 0, a, m, e, h => ⟨m, by omega, Nat.le_refl _, h, fun j h1 h2 => by omega⟩
  | f + 1, a, m, e, h => by
    by_cases ha : p a
    · exact ⟨a, Nat.le_refl _, by omega, ha, fun j h1 h2 => by omega⟩
    · obtain ⟨n, h1, h2, h3, h4⟩ := least_at p f (a + 1) m (by omega) h
      exact ⟨n, by omega, h2, h3, fun j hj1 hj2 => by
        by_cases hj : j = a
        · subst hj; exact ha
        · exact h4 j (by omega) hj2⟩
theorem valL_isF {L V : Int} {ys : List Tm} (h : serB L V ys = true) (s : ByteArray) : isF (valL s.data.toList ys).1 (valL s.data.toList ys).2 = true := by
  by_cases he : ∃ i, ∃ (hi : i < ys.length), (ys[i]).s = s
  · obtain ⟨i, hi, rfl⟩ := he
    obtain ⟨j, hj, hv⟩ : ∃ j, ∃ (hj : j < ys.length), valL (ys[i]).s.data.toList ys = ((ys[j]).n, (ys[j]).d) := by
      obtain ⟨j, _, hj2, hj3, hj4⟩ := least_at (fun j => ∃ hj : j < ys.length, (ys[j]).s = (ys[i]).s) i 0 i (by omega) ⟨hi, rfl⟩
      obtain ⟨hjl, he⟩ := hj3
      exact ⟨j, hjl, valL_at ys j hjl (fun m hm hmj e => hj4 m (Nat.zero_le _) hmj ⟨hm, data_eq e⟩) (by rw [he])⟩
    rw [hv]
    exact ser_fr h _ (List.getElem_mem hj)
  · rw [valL_none ys (fun j hj e => he ⟨j, hj, data_eq e⟩)]
    exact isF_zero_one

end Go.Proofs.YtdgkkcjjfpenpaaGreatDoor

namespace Go.Proofs.YtdgkkcjjfpenpaaGreatDoor
open Go.RowKit

/-- what PairSeries comes to: the fraction and the code -/
def pairC (r : Option (Int × Int)) : Int × Int × Int := match r with | none => (0, 0, 3) | some a => (a.1, a.2, 0)
theorem iWhole_c (x : Int) (w : World) : Calls Tryz.prog 67 #[.int .i64 x] w fun e w' => e = .returned (.agg #[.int .i64 x, .int .i64 1]) ∧ Below w.heap.size w w' := by
  go_enter Tryz.func67, Tryz.ntmps67
  go_wp2
  exact bodyPost_ret (v := .agg #[.int .i64 x, .int .i64 1]) (by simp [results, Tryz.results67, go_sem]) rfl ⟨rfl, by go_grown⟩
theorem ser_neP {L V : Int} {ts : List Tm} (h : serB L V ts = true) : ts.Pairwise (fun a b => a.s ≠ b.s) :=
  List.pairwise_iff_getElem.2 fun i j _ hj hij e => by
    have := asc_of_ser h i j hj hij
    rw [e, lessL_irrefl] at this
    cases this
theorem ser_nzP {L V : Int} {ts : List Tm} (h : serB L V ts = true) : ∀ t ∈ ts, t.n ≠ 0 := fun t ht => by
  have h1 := ser_term h t ht
  simp only [termB, Bool.and_eq_true, Bool.not_eq_true', beq_eq_false_iff_ne] at h1
  exact h1.2.2
theorem ap_case {ys xs : List Tm} {k : Nat} {a b n d p q : Int} {s : ByteArray} (hP : PairAt ys xs k a b) (hn : pairL ys (xs.drop k) (a, b) = match pairStep ys (a, b) ⟨s, n, d⟩ with
    | none => none
    | some a => pairL ys (xs.drop (k + 1)) a) (hl : valL s.data.toList ys = (p, q)) (hp : p ≠ 0) :
    ∃ t1 t2 t3, apR a b n d p q = (t1, t2, t3) ∧ ((t3 = 3 ∧ t1 = 0 ∧ t2 = 0 ∧ pairL ys xs (0, 1) = none) ∨ (t3 = 0 ∧ PairAt ys xs (k + 1) t1 t2)) := by
  cases hok : fOk (n * p) (d * q) with
  | false =>
    refine ⟨0, 0, 3, by unfold apR; rw [hok]; rfl, .inl ⟨rfl, rfl, rfl, ?_⟩⟩
    rw [pair_bad1 (t := ⟨s, n, d⟩) hl hp hok] at hn
    exact hP.1.symm.trans hn
  | true =>
    cases hok2 : fOk (a * fD (n * p) (d * q) + fN (n * p) (d * q) * b) (b * fD (n * p) (d * q)) with
    | false =>
      refine ⟨0, 0, 3, ?_, .inl ⟨rfl, rfl, rfl, ?_⟩⟩
      · unfold apR
        rw [hok, if_pos rfl]
        unfold q3
        rw [(low_no hok2).1, (low_no hok2).2.1, (low_no hok2).2.2]
      · rw [pair_bad2 (t := ⟨s, n, d⟩) hl hp hok rfl rfl hok2] at hn
        exact hP.1.symm.trans hn
    | true =>
      refine ⟨_, _, 0, ?_, .inr ⟨rfl, ?_, fOk_isFp hok2⟩⟩
      · unfold apR
        rw [hok, if_pos rfl]
        unfold q3
        rw [(low_yes hok2).2.2]
      · rw [pair_good (t := ⟨s, n, d⟩) hl hp hok rfl rfl hok2] at hn
        exact hn.symm.trans hP.1
end Go.Proofs.YtdgkkcjjfpenpaaGreatDoor
