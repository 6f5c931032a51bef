/-
  The laws' own helpers that write marks into a list of terms and look whether the marks are still there.
-/
import Derived.Test.YtlkeifaiohaehaaDoorSer
import Derived.Laws.BytesString
import Derived.Laws.IdiomStrings
namespace Go.Proofs.YtlkeifaiohaehaaDoor
open Go.RowKit

theorem conv_byte (x : Int) (h0 : 0 ≤ x) (h1 : x ≤ 255) (W : World) :
    (convert 27 9 (.slice (some ⟨W.heap.size, 0, none⟩) 1 1)).run Tryd.prog (W.alloc (.cells #[.int .u8 x] 5)) = .ok (.string ⟨#[UInt8.ofNat x.toNat]⟩) (W.alloc (.cells #[.int .u8 x] 5)) := by
  have e : ((UInt8.ofNat x.toNat).toNat : Int) = x := by
    rw [UInt8.toNat_ofNat']; omega
  exact run_convert_bytes_back (P := Tryd.prog) (W.alloc (.cells #[.int .u8 x] 5)) 27 9 5 ⟨W.heap.size, 0, none⟩ 1 [UInt8.ofNat x.toNat] Tryd.underlying27 Tryd.underlying5 Tryd.underlying9 (fun j hj => by
    have hj0 : j = 0 := by simpa using hj
    subst hj0
    simp only [List.getElem_cons_zero, e]
    show (W.alloc _).cell? ⟨W.heap.size, 0, none⟩ = _
    rw [World.cell?_alloc_new]
    rfl)

/-- the digits that the loop puts ahead of what it has; the mark of a number -/
def digs : Nat → Int → ByteArray → ByteArray
  | 0, _, acc => acc
  | f + 1, k, acc => if k = 0 then acc else digs f (k / 10) (⟨#[UInt8.ofNat (48 + k % 10).toNat]⟩ ++ acc)
def mkT (k : Int) : ByteArray := ⟨#[109]⟩ ++ digs 8 k ByteArray.empty

theorem ten_bd (f : Nat) (hf : f ≤ 8) : (10 : Int) ^ f ≤ 100000000 := by
  have h : f = 0 ∨ f = 1 ∨ f = 2 ∨ f = 3 ∨ f = 4 ∨ f = 5 ∨ f = 6 ∨ f = 7 ∨ f = 8 := by omega
  rcases h with rfl | rfl | rfl | rfl | rfl | rfl | rfl | rfl | rfl <;> decide
theorem digs_step (g : Nat) (j : Int) (s : ByteArray) (hj : 0 < j) : digs (g + 1) j s = digs g (j / 10) (⟨#[UInt8.ofNat (48 + j % 10).toNat]⟩ ++ s) := by
  rw [digs, if_neg (by omega)]
theorem digs_zero (f : Nat) (s : ByteArray) : digs f 0 s = s := by
  cases f with
  | zero => rfl
  | succ f => rw [digs, if_pos rfl]
theorem ten_step (j : Int) (g : Nat) (h : j < 10 ^ (g + 1)) : j / 10 < 10 ^ g := by
  rw [Int.pow_succ] at h
  omega

/-- the terms that marking leaves, from the number `k` on -/
def marked (k : Int) : List Tm → List Tm
  | [] => []
  | _ :: r => ⟨mkT k, k + 1, k + 2⟩ :: marked (k + 3) r
theorem marked_length : ∀ (k : Int) (ts : List Tm), (marked k ts).length = ts.length
  | _, [] => rfl
  | k, _ :: r => by simp [marked, marked_length (k + 3) r]
theorem marked_get : ∀ (k : Int) (ts : List Tm) (i : Nat) (h : i < (marked k ts).length), (marked k ts)[i] = ⟨mkT (k + 3 * i), k + 3 * i + 1, k + 3 * i + 2⟩
  | _, [], i, h => by simp [marked] at h
  | k, _ :: r, 0, _ => by simp [marked]
  | k, _ :: r, i + 1, h => by
    have hi : i < (marked (k + 3) r).length := by simpa [marked] using h
    have e := marked_get (k + 3) r i hi
    have e2 : k + 3 + 3 * (i : Int) = k + 3 * ((i + 1 : Nat) : Int) := by omega
    rw [e2] at e
    simpa [marked] using e

/-- what marking comes to: the row's new terms, a number further on; nothing else has changed -/
def MarkPost (g : Nat) (len : Nat) (ts' : List Tm) (k' : Int) (W : World) (e : Ending) (w' : World) : Prop :=
  e = .returned (.int .i64 k') ∧ W.grownBy w' (some g) ∧ Made w' g (len * 3) ∧ TermsIn w' g 0 ts'

theorem grown_of_below {W w w' : World} {g : Nat} (h : W.grownBy w (some g)) (hb : Below w.heap.size w w') : W.grownBy w' (some g) :=
  ⟨hb.os.trans h.os, hb.tape.trans h.tape, hb.output.trans h.output, Nat.le_trans h.size hb.size, fun i hi hne => (hb.block i (Nat.lt_of_lt_of_le hi h.size)).trans (h.block i hi hne)⟩
theorem grown_set {W w : World} {g o : Nat} (h : W.grownBy w (some g)) (u : Value) : W.grownBy (w.setCell ⟨g, o, none⟩ u) (some g) :=
  ⟨h.os, h.tape, h.output, by rw [World.size_setCell]; exact h.size, fun i hi hne => (Below.heap_setCell w ⟨g, o, none⟩ u i (fun e => hne (by rw [e]))).trans (h.block i hi hne)⟩

theorem str_neq_same (s : ByteArray) : (s.toList != s.toList) = false := by simp

end Go.Proofs.YtlkeifaiohaehaaDoor
