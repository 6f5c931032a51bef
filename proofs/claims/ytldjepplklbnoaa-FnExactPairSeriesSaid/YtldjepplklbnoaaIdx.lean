/-
  The places of lengths: the binary search of the library at an int64, and indexOfLength of the program.
-/
import Derived.Test.YtldjepplklbnoaaBin
namespace Go.Proofs.Ytldjepplklbnoaa
open Go.RowKit

theorem less_len {a b : List UInt8} (h : lessL a b = true) : a.length ≤ b.length := by
  unfold lessL at h
  by_cases e : a.length = b.length
  · omega
  · rw [if_neg e] at h
    simp only [decide_eq_true_eq] at h; omega
/-- the place at which words of a length begin -/
def LPlace (ts : List Tm) (n : Int) (i : Nat) : Prop := i ≤ ts.length ∧ (∀ j (h : j < ts.length), j < i → ((ts[j]).s.size : Int) < n) ∧ (∀ j (h : j < ts.length), i ≤ j → n ≤ ((ts[j]).s.size : Int))
theorem asc_len {ts : List Tm} (ha : Asc ts) : ∀ i j (hj : j < ts.length) (hij : i < j), (ts[i]'(Nat.lt_trans hij hj)).s.size ≤ (ts[j]).s.size := fun i j hj hij => by
  have h := less_len (ha i j hj hij)
  simpa using h

def cmpI (a b : Int) : Int := if a < b then -1 else if b < a then 1 else 0
theorem cmpI_lt {a b : Int} (h : a < b) : cmpI a b < 0 := by simp [cmpI, h]
theorem cmpI_ge {a b : Int} (h : b ≤ a) : 0 ≤ cmpI a b := by
  unfold cmpI
  rw [if_neg (by omega)]
  split <;> omega

def LPost (ts : List Tm) (n : Int) (W : World) (e : Ending) (w' : World) : Prop :=
  ∃ (i : Nat) (f : Bool), LPlace ts n i ∧ e = .returned (.tuple #[.int .i64 i, .bool f]) ∧ Below W.heap.size W w'

/-- what indexOfLength comes to -/
def IPost (ts : List Tm) (n : Int) (W : World) (e : Ending) (w' : World) : Prop :=
  ∃ i : Nat, LPlace ts n i ∧ e = .returned (.int .i64 i) ∧ Below W.heap.size W w'
end Go.Proofs.Ytldjepplklbnoaa
