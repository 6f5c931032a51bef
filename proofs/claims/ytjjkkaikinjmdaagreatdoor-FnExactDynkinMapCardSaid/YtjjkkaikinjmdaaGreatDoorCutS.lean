/-
  Contracts of CutOf, of the program and of its model.
-/
import Derived.Test.YtjjkkaikinjmdaaGreatDoorNeck
import Derived.Test.YtjjkkaikinjmdaaGreatDoorCutM
import Derived.Test.YtjjkkaikinjmdaaGreatDoorWordsOf
namespace Go.Proofs.YtjjkkaikinjmdaaGreatDoor
open Go.RowKit

theorem below_dN2 {B : Nat} {a w : World} (h : Below B a w) (n : Nat) : Below B a (w.drewN n) := ⟨h.os, h.tape, h.output, h.size, h.block⟩

theorem aheadOf_c (s : ByteArray) (i : Nat) (hi : IsCut s i) (hs : s.size ≤ 1048576) (w : World) :
    Calls Tryz.prog 66 #[.string s] w fun e w' => e = .returned (.tuple #[.string (s.extract 0 i), .string (s.extract i s.size)]) ∧ Below w.heap.size w w' := by
  have HI := Lib.hid hi
  have hi1 := hi.1
  have hi2 := hi.2.1
  clear hi
  go_enter Tryz.func66, Tryz.ntmps66
  go_wp2_with fail
  go_loop [4] (fun vi => ∃ k : Nat, 1 ≤ k ∧ k ≤ i ∧ vi = .int .i64 k) (fun vi => s.size - (intOf vi).toNat)
  case atStart => exact ⟨1, Nat.le_refl _, hi1, rfl⟩
  case round =>
    obtain ⟨k, hk1, hk, rfl⟩ := hrel
    have hz : (s.extract k s.size).size ≤ maxLen := by simp only [ByteArray.size_extract]; unfold maxLen; omega
    by_cases hp : k = i
    · have HB : Hid (lynB (s.extract k s.size) = true) := Lib.hid (by rw [hp]; exact HI.out.2.2.1)
      subst hp
      go_wp2_with (first | (go_at_call 59; refine (isLyndon_c _ hz _).mono ?_; rw [HB.out]; rintro e w' ⟨rfl, rfl⟩) | fail)
      go_quiet (fail)
      go_wp2
      go_ret2
      exact ⟨rfl, below_dN2 (Below.refl _ _) _⟩
    · have HB : Hid (lynB (s.extract k s.size) = false) := Lib.hid (HI.out.2.2.2 k hk1 (by omega))
      go_wp2_with (go_at_call 59; refine (isLyndon_c _ hz _).mono ?_; rw [HB.out]; rintro e w' ⟨rfl, rfl⟩)
      go_round
      case rel => exact ⟨k + 1, by omega, by omega, by go_num⟩
      case measure => simp [intOf]; omega

theorem copied_c (s : ByteArray) (hs : s.size ≤ 1048576) (w : World) :
    Calls Tryz.prog 97 #[.string s] w fun e w' => e = .returned (.string s) ∧ Below w.heap.size w w' := by
  go_enter Tryz.func97, Tryz.ntmps97
  go_wp2_with fail
  refine (cloneS_c s hs _).mono ?_
  rintro e w' ⟨rfl, hb⟩
  go_wp2
  go_ret
  exact ⟨rfl, hb⟩

theorem two_owned (w : World) (a b : ByteArray) : OwnS (w.alloc (.cells #[.string a, .string b] 9)) w.heap.size (.slice (some ⟨w.heap.size, 0, none⟩) 2 2) [a, b] :=
  ⟨rfl, .inr ⟨w.heap.size, 2, #[.string a, .string b], rfl, Nat.le_refl _, heap_alloc_new w _, Nat.le_refl _, by unfold maxLen; omega, rfl, rfl⟩⟩
theorem two_new (w : World) (a b : ByteArray) (B : Nat) (hB : B ≤ w.heap.size) : NewS B (w.alloc (.cells #[.string a, .string b] 9)).heap.size (w.alloc (.cells #[.string a, .string b] 9)) (some ⟨w.heap.size, 0, none⟩) [a, b] := by
  obtain ⟨a', c', he, hle, hN⟩ := (two_owned w a b).newS
  injection he with e1 e2 e3
  subst e1
  exact hN.mono hB (Nat.le_refl _)
end Go.Proofs.YtjjkkaikinjmdaaGreatDoor
