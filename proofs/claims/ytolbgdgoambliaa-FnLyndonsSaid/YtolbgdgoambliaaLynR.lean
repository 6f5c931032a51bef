/-
  'FnExactIsLyndon' returns true at every input: the program's IsLyndon and its model's return the same answer and code. No condition.
-/
import Derived.Test.YtolbgdgoambliaaNeck
import Derived.Test.YtolbgdgoambliaaRes
namespace Go.Proofs.Ytolbgdgoambliaa
open Go.ChangeShapes Go.WideShapes Go.ChangeAt Go.RowKit
open Go.ChangeMaps (open_string shut_string)

theorem sIsLyndon_c (d : Int) (s : ByteArray) (hs : s.size ≤ maxLen) (w : World) :
    Calls Try.prog 23 #[.int .i64 d, .string s] w fun e w' => e = .returned (.tuple #[.bool (shortB d 8 s && lynB s), .int .i64 (if shortB d 8 s = true then 0 else 2)]) ∧ w = w' := by
  cases h : shortB d 8 s with
  | _ =>
    have H := Lib.hid h
    clear h
    go_enter Try.func23, Try.ntmps23
    go_wp2_with (first | (go_at_call 28; refine (l05Word_c _ 8 _ hs _).mono ?_; rw [H.out]; rintro e w' ⟨rfl, rfl⟩) | (go_at_call 33; refine (l05Lyndon_c _ hs _).mono ?_; rintro e w' ⟨rfl, rfl⟩))
    go_ret2
    exact ⟨rfl, rfl⟩
theorem iIsLyndon_c (d : Int) (s : ByteArray) (hs : s.size ≤ maxLen) (w : World) :
    Calls Try.prog 9 #[.int .i64 d, .string s] w fun e w' => e = .returned (.tuple #[.bool (shortB d 8 s && lynB s), .int .i64 (if shortB d 8 s = true then 0 else 2)]) ∧ w = w' := by
  cases h : shortB d 8 s with
  | _ =>
    have H := Lib.hid h
    clear h
    go_enter Try.func9, Try.ntmps9
    go_wp2_with (first | (go_at_call 26; refine (isShortWord_c _ _ hs _).mono ?_; rw [H.out]; rintro e w' ⟨rfl, rfl⟩) | (go_at_call 30; refine (isLyndon_c _ hs _).mono ?_; rintro e w' ⟨rfl, rfl⟩))
    go_ret2
    exact ⟨rfl, rfl⟩

namespace fnExactIsLyndon
end fnExactIsLyndon
end Go.Proofs.Ytolbgdgoambliaa
