/-
  The places of lengths: the binary search of the library at an int64, and indexOfLength of the program.
  The terms of a length, as the program cuts them out of a list.
-/
import Derived.Test.YtnlapfclmpilaaaDoorBin
namespace Go.Proofs.YtnlapfclmpilaaaDoor
open Go.RowKit

theorem less_len {a b : List UInt8} (h : lessL a b = true) : a.length ≤ b.length := by
  unfold lessL at h
  by_cases e : a.length = b.length
  · omega
  · rw [if_neg e] at h
    simp only [decide_eq_true_eq] at h; omega
/-- the place at which words of a length begin -/
def LPlace (ts : List Tm) (n : Int) (i : Nat) : Prop := i ≤ ts.length ∧ (∀ j (h : j < ts.length), j < i → ((ts[j]).s.size : Int) < n) ∧ (∀ j (h : j < ts.length), i ≤ j → n ≤ ((ts[j]).s.size : Int))
theorem asc_len {ts : List Tm} (ha : Asc ts) : ∀ i j (hj : j < ts.length) (hij : i < j), (ts[i]'(Nat.lt_trans hij hj)).s.size ≤ (ts[j]).s.size := fun i j hj hij => by
  have h := less_len (ha i j hj hij)
  simpa using h

def cmpI (a b : Int) : Int := if a < b then -1 else if b < a then 1 else 0
theorem cmpI_lt {a b : Int} (h : a < b) : cmpI a b < 0 := by simp [cmpI, h]
theorem cmpI_ge {a b : Int} (h : b ≤ a) : 0 ≤ cmpI a b := by
  unfold cmpI
  rw [if_neg (by omega)]
  split <;> omega

def LPost (ts : List Tm) (n : Int) (W : World) (e : Ending) (w' : World) : Prop :=
  ∃ (i : Nat) (f : Bool), LPlace ts n i ∧ e = .returned (.tuple #[.int .i64 i, .bool f]) ∧ Below W.heap.size W w'

/-- what indexOfLength comes to -/
def IPost (ts : List Tm) (n : Int) (W : World) (e : Ending) (w' : World) : Prop :=
  ∃ i : Nat, LPlace ts n i ∧ e = .returned (.int .i64 i) ∧ Below W.heap.size W w'
end Go.Proofs.YtnlapfclmpilaaaDoor

namespace Go.Proofs.YtnlapfclmpilaaaDoor
open Go.RowKit

def partL (m : Int) (ts : List Tm) : List Tm := ts.filter fun t => decide ((t.s.size : Int) = m)
theorem places_le {ts : List Tm} {m : Int} {i j : Nat} (h1 : LPlace ts m i) (h2 : LPlace ts (m + 1) j) : i ≤ j := by
  by_cases h : i ≤ j
  · exact h
  · have a := h1.2.1 j (by have := h1.1; omega) (by omega)
    have b := h2.2.2 j (by have := h1.1; omega) (Nat.le_refl _)
    omega
theorem part_eq {ts : List Tm} {m : Int} {i j : Nat} (h1 : LPlace ts m i) (h2 : LPlace ts (m + 1) j) : (ts.drop i).take (j - i) = partL m ts := by
  have hij := places_le h1 h2
  have hj := h2.1
  have e : ts = ts.take i ++ ((ts.drop i).take (j - i) ++ ts.drop j) := by
    have e1 : ts.drop j = (ts.drop i).drop (j - i) := by rw [List.drop_drop]; congr 1; omega
    rw [e1, List.take_append_drop, List.take_append_drop]
  have f1 : (ts.take i).filter (fun t => decide ((t.s.size : Int) = m)) = [] := by
    rw [List.filter_eq_nil_iff]
    intro t ht
    obtain ⟨k, hk, rfl⟩ := List.getElem_of_mem ht
    rw [List.length_take] at hk
    rw [List.getElem_take]
    have := h1.2.1 k (by omega) (by omega)
    simp; omega
  have f2 : ((ts.drop i).take (j - i)).filter (fun t => decide ((t.s.size : Int) = m)) = (ts.drop i).take (j - i) := by
    rw [List.filter_eq_self]
    intro t ht
    obtain ⟨k, hk, rfl⟩ := List.getElem_of_mem ht
    rw [List.length_take, List.length_drop] at hk
    rw [List.getElem_take, List.getElem_drop]
    have a := h1.2.2 (i + k) (by omega) (by omega)
    have b := h2.2.1 (i + k) (by omega) (by omega)
    simp; omega
  have f3 : (ts.drop j).filter (fun t => decide ((t.s.size : Int) = m)) = [] := by
    rw [List.filter_eq_nil_iff]
    intro t ht
    obtain ⟨k, hk, rfl⟩ := List.getElem_of_mem ht
    rw [List.length_drop] at hk
    rw [List.getElem_drop]
    have := h2.2.2 (j + k) (by omega) (by omega)
    simp; omega
  unfold partL
  conv => rhs; rw [e]
  rw [List.filter_append, List.filter_append, f1, f2, f3, List.append_nil, List.nil_append]
theorem cut_terms {w : World} {b off : Nat} {ts : List Tm} {i n : Nat} (h : TermsIn w b off ts) (hin : i + n ≤ ts.length) : TermsIn w b (off + i * 3) ((ts.drop i).take n) := by
  intro k hk
  have hk2 : k < n := by rw [List.length_take] at hk; omega
  have g := h (i + k) (by omega)
  rw [List.getElem_take, List.getElem_drop]
  have e : off + i * 3 + k * 3 = off + (i + k) * 3 := by omega
  rw [e]
  exact g

/-- what termsOfLength comes to: a part of the row that came in -/
def CutPost (b : Nat) (ps : List Tm) (W : World) (e : Ending) (w' : World) : Prop :=
  ∃ o, e = .returned (.slice (some ⟨b, o, none⟩) ps.length ps.length) ∧ TermsIn w' b o ps ∧ Below W.heap.size W w'

end Go.Proofs.YtnlapfclmpilaaaDoor
