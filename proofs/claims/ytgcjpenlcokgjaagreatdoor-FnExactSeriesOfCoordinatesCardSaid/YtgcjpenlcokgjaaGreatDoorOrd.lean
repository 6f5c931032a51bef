/-
  The order of words: the contracts of the functions that compare words, of the program and of its model.
-/
import Derived.Test.YtgcjpenlcokgjaaGreatDoorWordW
import Derived.Lib.Bytealg
import Derived.Lib.Walk
import Derived.WalkLawsBesides
namespace Go.Proofs.YtgcjpenlcokgjaaGreatDoor
open Go.RowKit

/-- does a word come ahead of another one? and the number that says so -/
def lessL (a b : List UInt8) : Bool := if a.length = b.length then Op.bytesLess a b else decide (a.length < b.length)
def cmpL (a b : List UInt8) : Int := if a.length = b.length then Lib.compareBytes a b else if a.length < b.length then -1 else 1

set_option maxHeartbeats 1000000 in
set_option maxRecDepth 100000 in
theorem bytealgCompare_c (a b : ByteArray) (w : World) :
    Calls Tryz.prog 153 #[.string a, .string b] w fun e w' => e = .returned (.int .i64 (Lib.compareBytes a.data.toList b.data.toList)) ∧ w = w' := by
  go_enter Tryz.func153, Tryz.ntmps153
  go_wp2
  rw [run_callFunc_extern Tryz.func162 (by kernel_rfl) (by kernel_rfl) (by kernel_rfl) (e := Extern.BytealgCompare.compare) (by kernel_rfl), Lib.run_compareString]
  simp only [Result.andThen]
  rw [Oper.upon_value]
  go_wp2
  go_ret
  exact ⟨rfl, rfl⟩

theorem stringsCompare_c (a b : ByteArray) (w : World) :
    Calls Tryz.prog 129 #[.string a, .string b] w fun e w' => e = .returned (.int .i64 (Lib.compareBytes a.data.toList b.data.toList)) ∧ w = w' := by
  go_enter Tryz.func129, Tryz.ntmps129
  go_wp2_with (go_at_call 153; refine (bytealgCompare_c _ _ _).mono ?_; rintro e w' ⟨rfl, rfl⟩)
  go_ret
  exact ⟨rfl, rfl⟩

theorem cmpInt_c (a b : Int) (w : World) :
    Calls Tryz.prog 128 #[.int .i64 a, .int .i64 b] w fun e w' => e = .returned (.int .i64 (if a < b then -1 else if b < a then 1 else 0)) ∧ w = w' := by
  by_cases h1 : a < b
  · go_enter Tryz.func128, Tryz.ntmps128
    go_wp2
    go_ret
    exact ⟨rfl, rfl⟩
  · by_cases h2 : b < a
    · go_enter Tryz.func128, Tryz.ntmps128
      go_wp2
      go_ret
      exact ⟨rfl, rfl⟩
    · go_enter Tryz.func128, Tryz.ntmps128
      go_wp2
      go_ret
      exact ⟨rfl, rfl⟩

theorem l01Before_c (a b : ByteArray) (w : World) :
    Calls Tryz.prog 65 #[.string a, .string b] w fun e w' => e = .returned (.bool (lessL a.data.toList b.data.toList)) ∧ w' = w := by
  by_cases h : a.size = b.size
  · have HL : Hid (lessL a.data.toList b.data.toList = Op.bytesLess a.toList b.toList) := by simp [Hid, lessL, h, ByteArray.toList_eq]
    have h' : ((a.size : Int) != (b.size : Int)) = false := by simp [h]
    clear h
    go_enter Tryz.func65, Tryz.ntmps65
    go_wp2
    go_ret
    exact ⟨ret_bool HL.out.symm, rfl⟩
  · have HL : Hid (lessL a.data.toList b.data.toList = decide (a.size < b.size)) := by simp [Hid, lessL, h]
    have h' : ((a.size : Int) != (b.size : Int)) = true := by simp; omega
    clear h
    go_enter Tryz.func65, Tryz.ntmps65
    go_wp2
    go_ret
    exact ⟨ret_bool HL.out.symm, rfl⟩

theorem orInt_c (x y : Int) (g : Nat) (w : World) (h0 : w.cell? ⟨g, 0, none⟩ = some (.int .i64 x)) (h1 : w.cell? ⟨g, 1, none⟩ = some (.int .i64 y)) :
    Calls Tryz.prog 127 #[.slice (some ⟨g, 0, none⟩) 2 2] w fun e w' => e = .returned (.int .i64 (if x = 0 then y else x)) ∧ w = w' := by
  by_cases hx : x = 0
  · subst hx
    by_cases hy : y = 0
    · subst hy
      go_enter Tryz.func127, Tryz.ntmps127
      go_wp2
      go_rounds 3
      all_goals (go_ret; exact ⟨rfl, rfl⟩)
    · have e1 : (y != 0) = true := by simpa using hy
      go_enter Tryz.func127, Tryz.ntmps127
      go_wp2
      go_rounds 3
      all_goals (go_ret; exact ⟨rfl, rfl⟩)
  · have e1 : (x != 0) = true := by simpa using hx
    have HI : Hid ((if x = 0 then y else x) = x) := by simp [Hid, hx]
    go_enter Tryz.func127, Tryz.ntmps127
    go_wp2
    go_rounds 3
    all_goals (go_ret; first | exact ⟨rfl, rfl⟩ | exact ⟨ret_int HI.out.symm, rfl⟩)

theorem cmpL_eq (a b : ByteArray) : (if (if (a.size : Int) < (b.size : Int) then (-1 : Int) else if (b.size : Int) < (a.size : Int) then 1 else 0) = 0 then Lib.compareBytes a.data.toList b.data.toList else (if (a.size : Int) < (b.size : Int) then (-1 : Int) else if (b.size : Int) < (a.size : Int) then 1 else 0)) = cmpL a.data.toList b.data.toList := by
  unfold cmpL
  have e1 : a.data.toList.length = a.size := by simp
  have e2 : b.data.toList.length = b.size := by simp
  rw [e1, e2]
  rcases Nat.lt_trichotomy a.size b.size with h | h | h
  · rw [if_pos (show (a.size : Int) < b.size by omega), if_neg (by omega), if_neg (by omega), if_pos h]
  · rw [if_neg (show ¬ (a.size : Int) < b.size by omega), if_neg (show ¬ (b.size : Int) < a.size by omega), if_pos rfl, if_pos h]
  · rw [if_neg (show ¬ (a.size : Int) < b.size by omega), if_pos (show (b.size : Int) < a.size by omega), if_neg (by omega), if_neg (by omega), if_neg (by omega)]

theorem compareWords_c (a b : ByteArray) (w : World) :
    Calls Tryz.prog 93 #[.string a, .string b] w fun e w' => e = .returned (.int .i64 (cmpL a.data.toList b.data.toList)) ∧ Below w.heap.size w w' := by
  have HC := Lib.hid (cmpL_eq a b)
  go_enter Tryz.func93, Tryz.ntmps93
  go_wp2_with fail
  refine (cmpInt_c _ _ _).mono ?_
  rintro e w' ⟨rfl, rfl⟩
  generalize (if (a.size : Int) < (b.size : Int) then (-1 : Int) else if (b.size : Int) < (a.size : Int) then 1 else 0) = x at HC ⊢
  go_wp2_with fail
  refine (stringsCompare_c _ _ _).mono ?_
  rintro e w' ⟨rfl, rfl⟩
  generalize Lib.compareBytes a.data.toList b.data.toList = y at HC ⊢
  go_wp2_with fail
  refine (orInt_c x y w.heap.size _ (by go_simp) (by go_simp)).mono ?_
  rintro e w' ⟨rfl, rfl⟩
  by_cases hx : x = 0
  · rw [if_pos hx]
    have H2 := Lib.hid ((if_pos hx).symm.trans HC.out)
    clear hx
    go_wp2
    go_ret
    exact ⟨ret_int H2.out, below1 _ _⟩
  · rw [if_neg hx]
    have H2 := Lib.hid ((if_neg hx).symm.trans HC.out)
    clear hx
    go_wp2
    go_ret
    exact ⟨ret_int H2.out, below1 _ _⟩

theorem cmpL_lt : ∀ (a b : List UInt8), (Lib.compareBytes a b < 0) ↔ Op.bytesLess a b = true
  | [], [] => by simp [Lib.compareBytes, Op.bytesLess]
  | [], _ :: _ => by simp [Lib.compareBytes, Op.bytesLess]
  | _ :: _, [] => by simp [Lib.compareBytes, Op.bytesLess]
  | x :: a, y :: b => by
    have ih := cmpL_lt a b
    by_cases h1 : x < y
    · simp [Lib.compareBytes, Op.bytesLess, h1]
    · by_cases h2 : y < x
      · have h3 : ¬ x = y := by rintro rfl; exact h1 h2
        simp [Lib.compareBytes, Op.bytesLess, h1, h2, h3]
      · have h3 : x = y := by
          have := UInt8.le_antisymm (UInt8.not_lt.1 h2) (UInt8.not_lt.1 h1)
          exact this
        subst h3
        simp [Lib.compareBytes, Op.bytesLess, h1, ih]
theorem lessL_cmp (a b : List UInt8) : (cmpL a b < 0) ↔ lessL a b = true := by
  unfold cmpL lessL
  by_cases h : a.length = b.length
  · rw [if_pos h, if_pos h]; exact cmpL_lt a b
  · rw [if_neg h, if_neg h]
    by_cases h2 : a.length < b.length
    · simp [h2]
    · simp [h2]
end Go.Proofs.YtgcjpenlcokgjaaGreatDoor
