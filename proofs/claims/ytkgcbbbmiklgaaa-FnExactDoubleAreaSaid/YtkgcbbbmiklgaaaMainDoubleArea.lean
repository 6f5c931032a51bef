/-
  'FnExactDoubleArea' returns true in every world: the law with the two contracts.
-/
import Derived.Test.YtkgcbbbmiklgaaaLawDoubleArea
namespace Go.Proofs.Ytkgcbbbmiklgaaa
open Go.RowKit

theorem main_DoubleArea (n0 n2 n3 : Int) (a1 : Option Addr) (cap1 : Nat) (ps1 : List (List Int)) (hl1 : ps1.length ≤ maxLen) (hs1 : ∀ i (h : i < ps1.length), (ps1[i]).length ≤ maxLen) (w : World) (hr1 : PRow 0 w.heap.size w a1 ps1) :
    Calls Try.prog 12 #[.int .i64 n0, .slice a1 ps1.length cap1, .int .i64 n2, .int .i64 n3] w fun e w' => e = .returned (.bool true) ∧ Below w.heap.size w w' := by
  have law := law_DoubleArea n0 n2 n3 a1 cap1 ps1 hl1 hs1 w hr1
  cases h : pathB n0 ps1 with
  | false => exact law 0 1 (fun W b k q1 q2 hr => sDbl_1 0 W.heap.size n0 b k ps1 n2 n3 q1 q2 W hr h) (fun W b k q1 q2 hr => iDbl_1 0 W.heap.size n0 b k ps1 n2 n3 q1 q2 W hr h)
  | true =>
    obtain ⟨D, rfl, hP⟩ := small_of h
    have hD := hP.2.2.1
    have hD1 := hP.2.1
    have hL : (1 : Int) ≤ D ∧ (D : Int) ≤ 3 := by omega
    cases h2 : inB n2 0 ((D : Int) - 1) with
    | false => exact law 0 2 (fun W b k q1 q2 hr => sDbl_2 0 W.heap.size D b k ps1 n2 n3 q1 q2 W hr h hL h2) (fun W b k q1 q2 hr => iDbl_2 0 W.heap.size D b k ps1 n2 n3 q1 q2 W hr h hL h2)
    | true =>
      cases h3 : inB n3 0 ((D : Int) - 1) with
      | false => exact law 0 2 (fun W b k q1 q2 hr => sDbl_3 0 W.heap.size D b k ps1 n2 n3 q1 q2 W hr h hL h2 h3) (fun W b k q1 q2 hr => iDbl_3 0 W.heap.size D b k ps1 n2 n3 q1 q2 W hr h hL h2 h3)
      | true =>
        have q2 := inB_true h2
        have q3 := inB_true h3
        obtain ⟨i, rfl⟩ : ∃ i : Nat, n2 = i := ⟨n2.toNat, by omega⟩
        obtain ⟨m, rfl⟩ : ∃ i : Nat, n3 = i := ⟨n3.toNat, by omega⟩
        exact law (areaK ps1 i m ps1.length) 0 (fun W b k _ q2 hr => sDbl_4 0 W.heap.size D b k ps1 i m q2 W hr (Nat.le_refl _) h hP h2 h3) (fun W b k _ q2 hr => iDbl_4 0 W.heap.size D b k ps1 i m q2 W hr (Nat.le_refl _) h hP h2 h3)
end Go.Proofs.Ytkgcbbbmiklgaaa
