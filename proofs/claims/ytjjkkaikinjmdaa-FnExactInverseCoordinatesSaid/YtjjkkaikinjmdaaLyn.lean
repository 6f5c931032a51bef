/-
  Contracts of the functions that ask whether a word is a Lyndon word, of the program and of its model.
-/
import Derived.Test.YtjjkkaikinjmdaaWordW
import Derived.Test.YtjjkkaikinjmdaaLynM
import Derived.WalkLawsBesides
namespace Go.Proofs.Ytjjkkaikinjmdaa
open Go.RowKit

theorem isLyndon_c (s : ByteArray) (hs : s.size ≤ maxLen) (w : World) :
    Calls Try.prog 66 #[.string s] w fun e w' => e = .returned (.bool (lynB s)) ∧ w = w' := by
  unfold maxLen at hs
  go_enter Try.func66, Try.ntmps66
  go_wp2
  go_loop [3] (fun i => ∃ k : Nat, 1 ≤ k ∧ (k ≤ s.size ∨ k = 1) ∧ i = .int .i64 k ∧ lynTo s k = true) (fun i => s.size - (intOf i).toNat)
  case atStart => exact ⟨1, Nat.le_refl _, .inr rfl, rfl, lynTo_one s⟩
  case round =>
    obtain ⟨k, hk1, hk, rfl, hw⟩ := hrel
    have Hw := Lib.hid hw
    clear hw
    by_cases hlt : k < s.size
    · cases hl : Op.bytesLess s.toList (s.extract k s.size).toList with
      | true =>
        have HN := Lib.hid (lynTo_succ Hw.out hl)
        have hl2 : (!Op.bytesLess s.toList (s.extract k s.size).toList) = false := by rw [hl]; rfl
        clear hl
        go_wp2
        go_round
        case rel => exact ⟨k + 1, by omega, by omega, by go_num, HN.out⟩
        case measure => simp [intOf]; omega
      | false =>
        have HN := Lib.hid (lynB_no hk1 hlt hl)
        have hl2 : (!Op.bytesLess s.toList (s.extract k s.size).toList) = true := by rw [hl]; rfl
        clear hl
        go_wp2
        go_ret
        exact ⟨ret_bool HN.out.symm, rfl⟩
    · by_cases h0 : 0 < s.size
      · have HN := Lib.hid (lynB_yes h0 (by have e := Hw.out; rwa [show k = s.size from by omega] at e))
        have HE := Lib.hid (isEmpty_no h0)
        go_wp2
        go_ret
        exact ⟨ret_bool (by rw [HN.out, HE.out]; rfl), rfl⟩
      · have h0' : s.size = 0 := by omega
        have HN := Lib.hid (lynB_empty h0')
        obtain rfl := size_zero h0'
        go_wp2
        go_ret
        exact ⟨ret_bool HN.out.symm, rfl⟩

end Go.Proofs.Ytjjkkaikinjmdaa
