/-
  Contracts of PairSeries, of the program and of its model.
-/
import Derived.Test.YtjloadllckllpaaGreatDoorPairS
import Derived.Test.YtjloadllckllpaaGreatDoorAddP
namespace Go.Proofs.YtjloadllckllpaaGreatDoor
open Go.RowKit

/-- what PairSeries comes to: the fraction and the code -/
def pairC (r : Option (Int × Int)) : Int × Int × Int := match r with | none => (0, 0, 3) | some a => (a.1, a.2, 0)
theorem iWhole_c (x : Int) (w : World) : Calls Tryz.prog 81 #[.int .i64 x] w fun e w' => e = .returned (.agg #[.int .i64 x, .int .i64 1]) ∧ Below w.heap.size w w' := by
  go_enter Tryz.func81, Tryz.ntmps81
  go_wp2
  exact bodyPost_ret (v := .agg #[.int .i64 x, .int .i64 1]) (by simp [results, Tryz.results81, go_sem]) rfl ⟨rfl, by go_grown⟩
theorem ser_neP {L V : Int} {ts : List Tm} (h : serB L V ts = true) : ts.Pairwise (fun a b => a.s ≠ b.s) :=
  List.pairwise_iff_getElem.2 fun i j _ hj hij e => by
    have := asc_of_ser h i j hj hij
    rw [e, lessL_irrefl] at this
    cases this
theorem ser_nzP {L V : Int} {ts : List Tm} (h : serB L V ts = true) : ∀ t ∈ ts, t.n ≠ 0 := fun t ht => by
  have h1 := ser_term h t ht
  simp only [termB, Bool.and_eq_true, Bool.not_eq_true', beq_eq_false_iff_ne] at h1
  exact h1.2.2
theorem ap_case {ys xs : List Tm} {k : Nat} {a b n d p q : Int} {s : ByteArray} (hP : PairAt ys xs k a b) (hn : pairL ys (xs.drop k) (a, b) = match pairStep ys (a, b) ⟨s, n, d⟩ with
    | none => none
    | some a => pairL ys (xs.drop (k + 1)) a) (hl : valL s.data.toList ys = (p, q)) (hp : p ≠ 0) :
    ∃ t1 t2 t3, apR a b n d p q = (t1, t2, t3) ∧ ((t3 = 3 ∧ t1 = 0 ∧ t2 = 0 ∧ pairL ys xs (0, 1) = none) ∨ (t3 = 0 ∧ PairAt ys xs (k + 1) t1 t2)) := by
  cases hok : fOk (n * p) (d * q) with
  | false =>
    refine ⟨0, 0, 3, by unfold apR; rw [hok]; rfl, .inl ⟨rfl, rfl, rfl, ?_⟩⟩
    rw [pair_bad1 (t := ⟨s, n, d⟩) hl hp hok] at hn
    exact hP.1.symm.trans hn
  | true =>
    cases hok2 : fOk (a * fD (n * p) (d * q) + fN (n * p) (d * q) * b) (b * fD (n * p) (d * q)) with
    | false =>
      refine ⟨0, 0, 3, ?_, .inl ⟨rfl, rfl, rfl, ?_⟩⟩
      · unfold apR
        rw [hok, if_pos rfl]
        unfold q3
        rw [(low_no hok2).1, (low_no hok2).2.1, (low_no hok2).2.2]
      · rw [pair_bad2 (t := ⟨s, n, d⟩) hl hp hok rfl rfl hok2] at hn
        exact hP.1.symm.trans hn
    | true =>
      refine ⟨_, _, 0, ?_, .inr ⟨rfl, ?_, fOk_isFp hok2⟩⟩
      · unfold apR
        rw [hok, if_pos rfl]
        unfold q3
        rw [(low_yes hok2).2.2]
      · rw [pair_good (t := ⟨s, n, d⟩) hl hp hok rfl rfl hok2] at hn
        exact hn.symm.trans hP.1
end Go.Proofs.YtjloadllckllpaaGreatDoor
