/-
  The binary search of the library at terms, and findTerm of the program.
-/
import Derived.Test.YtllggcbogmooeaaFind
namespace Go.Proofs.Ytllggcbogmooeaa
open Go.RowKit

/-- what the search comes to: a place, and whether the word stands there -/
def FindPost (ts : List Tm) (w0 : List UInt8) (W : World) (e : Ending) (w' : World) : Prop :=
  ∃ i : Nat, Place ts w0 i ∧ e = .returned (.tuple #[.int .i64 i, .bool (match ts[i]? with | some t => decide (t.s.data.toList = w0) | none => false)]) ∧ Below W.heap.size W w'

theorem low_step {ts : List Tm} {w0 : List UInt8} {m : Nat} (ha : Asc ts) (hm : m < ts.length) (h : lessL (ts[m]).s.data.toList w0 = true) : ∀ j (hj : j < ts.length), j < m + 1 → lessL (ts[j]).s.data.toList w0 = true := fun j hj hjm => by
  by_cases e : j = m
  · subst e; exact h
  · exact lessL_trans (ha j m hm (by omega)) h
theorem high_step {ts : List Tm} {w0 : List UInt8} {m : Nat} (ha : Asc ts) (hm : m < ts.length) (h : lessL (ts[m]).s.data.toList w0 = false) : ∀ j (hj : j < ts.length), m ≤ j → lessL (ts[j]).s.data.toList w0 = false := fun j hj hjm => by
  by_cases e : m = j
  · subst e; exact h
  · cases hl : lessL (ts[j]).s.data.toList w0 with
    | false => rfl
    | true => rw [lessL_trans (ha m j hj (by omega)) hl] at h; cases h
theorem cmp_ge {a b : List UInt8} (h : lessL a b = false) : 0 ≤ cmpL a b := by
  by_cases h1 : cmpL a b < 0
  · rw [(lessL_cmp a b).1 h1] at h; cases h
  · omega

/-- the value at a word -/
def valL (w0 : List UInt8) : List Tm → Int × Int
  | [] => (0, 1)
  | t :: r => if t.s.data.toList = w0 then (t.n, t.d) else valL w0 r
theorem valL_at {w0 : List UInt8} : ∀ (ts : List Tm) (i : Nat) (h : i < ts.length), (∀ j (hj : j < ts.length), j < i → (ts[j]).s.data.toList ≠ w0) → (ts[i]).s.data.toList = w0 → valL w0 ts = ((ts[i]).n, (ts[i]).d)
  | [], i, h, _, _ => absurd h (Nat.not_lt_zero _)
  | t :: r, 0, _, _, he => by simp only [List.getElem_cons_zero] at he ⊢; rw [valL, if_pos he]
  | t :: r, i + 1, h, hn, he => by
    have h0 := hn 0 (by simp) (by omega)
    simp only [List.getElem_cons_zero] at h0
    rw [valL, if_neg h0]
    simp only [List.getElem_cons_succ] at he ⊢
    exact valL_at r i (by simpa using h) (fun j hj hji => by have := hn (j + 1) (by simpa using hj) (by omega); simpa using this) he
theorem valL_none {w0 : List UInt8} : ∀ (ts : List Tm), (∀ j (hj : j < ts.length), (ts[j]).s.data.toList ≠ w0) → valL w0 ts = (0, 1)
  | [], _ => rfl
  | t :: r, hn => by
    have h0 := hn 0 (by simp)
    simp only [List.getElem_cons_zero] at h0
    rw [valL, if_neg h0]
    exact valL_none r (fun j hj => by have := hn (j + 1) (by simpa using hj); simpa using this)
theorem data_eq {a b : ByteArray} (h : a.data.toList = b.data.toList) : a = b := by
  cases a; cases b; simp at h; rw [h]

end Go.Proofs.Ytllggcbogmooeaa
