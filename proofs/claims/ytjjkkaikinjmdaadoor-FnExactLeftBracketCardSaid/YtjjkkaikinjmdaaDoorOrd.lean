/-
  The order of words: the contracts of the functions that compare words, of the program and of its model.
-/
import Derived.Test.YtjjkkaikinjmdaaDoorWordW
import Derived.Lib.Bytealg
import Derived.Lib.Walk
import Derived.WalkLawsBesides
namespace Go.Proofs.YtjjkkaikinjmdaaDoor
open Go.RowKit

/-- does a word come ahead of another one? and the number that says so -/
def lessL (a b : List UInt8) : Bool := if a.length = b.length then Op.bytesLess a b else decide (a.length < b.length)
def cmpL (a b : List UInt8) : Int := if a.length = b.length then Lib.compareBytes a b else if a.length < b.length then -1 else 1

theorem l01Before_c (a b : ByteArray) (w : World) :
    Calls Tryd.prog 73 #[.string a, .string b] w fun e w' => e = .returned (.bool (lessL a.data.toList b.data.toList)) ∧ w' = w := by
  by_cases h : a.size = b.size
  · have HL : Hid (lessL a.data.toList b.data.toList = Op.bytesLess a.toList b.toList) := by simp [Hid, lessL, h, ByteArray.toList_eq]
    have h' : ((a.size : Int) != (b.size : Int)) = false := by simp [h]
    clear h
    go_enter Tryd.func73, Tryd.ntmps73
    go_wp2
    go_ret
    exact ⟨ret_bool HL.out.symm, rfl⟩
  · have HL : Hid (lessL a.data.toList b.data.toList = decide (a.size < b.size)) := by simp [Hid, lessL, h]
    have h' : ((a.size : Int) != (b.size : Int)) = true := by simp; omega
    clear h
    go_enter Tryd.func73, Tryd.ntmps73
    go_wp2
    go_ret
    exact ⟨ret_bool HL.out.symm, rfl⟩

theorem cmpL_eq (a b : ByteArray) : (if (if (a.size : Int) < (b.size : Int) then (-1 : Int) else if (b.size : Int) < (a.size : Int) then 1 else 0) = 0 then Lib.compareBytes a.data.toList b.data.toList else (if (a.size : Int) < (b.size : Int) then (-1 : Int) else if (b.size : Int) < (a.size : Int) then 1 else 0)) = cmpL a.data.toList b.data.toList := by
  unfold cmpL
  have e1 : a.data.toList.length = a.size := by simp
  have e2 : b.data.toList.length = b.size := by simp
  rw [e1, e2]
  rcases Nat.lt_trichotomy a.size b.size with h | h | h
  · rw [if_pos (show (a.size : Int) < b.size by omega), if_neg (by omega), if_neg (by omega), if_pos h]
  · rw [if_neg (show ¬ (a.size : Int) < b.size by omega), if_neg (show ¬ (b.size : Int) < a.size by omega), if_pos rfl, if_pos h]
  · rw [if_neg (show ¬ (a.size : Int) < b.size by omega), if_pos (show (b.size : Int) < a.size by omega), if_neg (by omega), if_neg (by omega), if_neg (by omega)]

theorem cmpL_lt : ∀ (a b : List UInt8), (Lib.compareBytes a b < 0) ↔ Op.bytesLess a b = true
  | [], [] => by simp [Lib.compareBytes, Op.bytesLess]
  | [], _ :: _ => by simp [Lib.compareBytes, Op.bytesLess]
  | _ :: _, [] => by simp [Lib.compareBytes, Op.bytesLess]
  | x :: a, y :: b => by
    have ih := cmpL_lt a b
    by_cases h1 : x < y
    · simp [Lib.compareBytes, Op.bytesLess, h1]
    · by_cases h2 : y < x
      · have h3 : ¬ x = y := by rintro rfl; exact h1 h2
        simp [Lib.compareBytes, Op.bytesLess, h1, h2, h3]
      · have h3 : x = y := by
          have := UInt8.le_antisymm (UInt8.not_lt.1 h2) (UInt8.not_lt.1 h1)
          exact this
        subst h3
        simp [Lib.compareBytes, Op.bytesLess, h1, ih]
theorem lessL_cmp (a b : List UInt8) : (cmpL a b < 0) ↔ lessL a b = true := by
  unfold cmpL lessL
  by_cases h : a.length = b.length
  · rw [if_pos h, if_pos h]; exact cmpL_lt a b
  · rw [if_neg h, if_neg h]
    by_cases h2 : a.length < b.length
    · simp [h2]
    · simp [h2]
end Go.Proofs.YtjjkkaikinjmdaaDoor
