/-
  'FnExactWeakSum' returns true at every input for which the two functions' contracts stand: the program's WeakSum and its model's return the same number and code.
-/
import Derived.Test.YtncodnjnndjjaaaDblArea
namespace Go.Proofs.Ytncodnjnndjjaaa
open Go.RowKit

set_option maxRecDepth 100000 in
set_option maxHeartbeats 8000000 in
theorem law_WeakSum (n0 : Int) (a1 : Option Addr) (cap1 : Nat) (ps1 : List (List Int)) (hl1 : ps1.length ≤ maxLen) (hs1 : ∀ i (h : i < ps1.length), (ps1[i]).length ≤ maxLen) (s2 : ByteArray) (hz2 : s2.size ≤ maxLen) (w : World) (hr1 : PRow 0 w.heap.size w a1 ps1) (z' c' : Int)
    (hS : ∀ (W : World) (b1 : Option Addr) (k1 : Nat), s2.size ≤ 1048576 → ps1.length ≤ 1048576 → flat ps1 ≤ 1048576 → PRow 0 W.heap.size W b1 ps1 → Calls Try.prog 15 #[.int .i64 n0, .slice b1 ps1.length k1, .string s2] W (IntPost z' c' W))
    (hI : ∀ (W : World) (b1 : Option Addr) (k1 : Nat), s2.size ≤ 1048576 → ps1.length ≤ 1048576 → flat ps1 ≤ 1048576 → PRow 0 W.heap.size W b1 ps1 → Calls Try.prog 16 #[.int .i64 n0, .slice b1 ps1.length k1, .string s2] W (IntPost z' c' W))
    : Calls Try.prog 4 #[.int .i64 n0, .slice a1 ps1.length cap1, .string s2] w fun e w' => e = .returned (.bool true) ∧ Below w.heap.size w w' := by
  have HSp := Lib.hid hS
  have HIm := Lib.hid hI
  have HS1 := Lib.hid hs1
  have R1_0 := Lib.hid hr1
  clear hS hI hs1 hr1
  unfold maxLen at hz2
  by_cases hbig2 : (1048576 : Int) < (s2.size : Int)
  · go_enter Try.func4, Try.ntmps4
    go_wp2
    go_ret
    exact ⟨rfl, Below.refl _ _⟩
  have hw2_2 : s2.size ≤ 1048576 := by omega
  go_enter Try.func4, Try.ntmps4
  go_wp2_with fail
  refine (szInt64SS_c 0 w.heap.size a1 cap1 ps1 hl1 HS1.out 1048576 (by omega) _ R1_0.out (by omega)).mono ?_
  rintro e w1 ⟨he, hb1⟩
  have hz1 := hb1.size
  have R1_1 := Lib.hid (R1_0.out.below hb1 (by omega))
  have B1 := Lib.hid ((hb1))
  rcases he with rfl | ⟨r1, hr1_0, hr1_1, rfl⟩
  · go_wp2
    go_ret
    exact ⟨rfl, B1.out⟩
  have hl2_1 : ps1.length ≤ 1048576 := by omega
  have hs2_1 : flat ps1 ≤ 1048576 := by omega
  have hrr1 : r1 ≤ 1048576 := by omega
  clear hr1_1 hb1
  go_wp2_with fail
  refine (toInt64SS_c 0 w.heap.size a1 cap1 ps1 hl2_1 hs2_1 _ R1_1.out (by omega)).mono ?_
  rintro e w2 ⟨xs1, rfl, hb2, hN2⟩
  have hz2 := hb2.size
  have R1_2 := Lib.hid (R1_1.out.below hb2 (by omega))
  have B2 := Lib.hid (B1.out.trans (hb2.mono (by omega)))
  have Ns1_2 := Lib.hid hN2
  clear hb2 hN2
  go_wp2_with fail
  refine (HSp.out _ _ _ hw2_2 hl2_1 hs2_1 (Ns1_2.out.row.mono (by omega) (by omega))).mono ?_
  rintro e w3 ⟨rfl, hb3⟩
  have hz3 := hb3.size
  have R1_3 := Lib.hid (R1_2.out.below hb3 (by omega))
  have Ns1_3 := Lib.hid (Ns1_2.out.below hb3 (by omega))
  have B3 := Lib.hid (B2.out.trans (hb3.mono (by omega)))
  clear hb3
  go_wp2_with fail
  refine (toInt64SS_c 0 w.heap.size a1 cap1 ps1 hl2_1 hs2_1 _ R1_3.out (by omega)).mono ?_
  rintro e w4 ⟨xx1, rfl, hb4, hN4⟩
  have hz4 := hb4.size
  have R1_4 := Lib.hid (R1_3.out.below hb4 (by omega))
  have B4 := Lib.hid (B3.out.trans (hb4.mono (by omega)))
  have Nx1_4 := Lib.hid hN4
  clear hb4 hN4
  go_wp2_with fail
  refine (HIm.out _ _ _ hw2_2 hl2_1 hs2_1 (Nx1_4.out.row.mono (by omega) (by omega))).mono ?_
  rintro e w5 ⟨rfl, hb5⟩
  have hz5 := hb5.size
  have R1_5 := Lib.hid (R1_4.out.below hb5 (by omega))
  have Nx1_5 := Lib.hid (Nx1_4.out.below hb5 (by omega))
  have B5 := Lib.hid (B4.out.trans (hb5.mono (by omega)))
  clear hb5
  go_wp2_with fail
  refine (toInt64SS_c 0 w.heap.size a1 cap1 ps1 hl2_1 hs2_1 _ R1_5.out (by omega)).mono ?_
  rintro e w6 ⟨xy1, rfl, hb6, hN6⟩
  have hz6 := hb6.size
  have R1_6 := Lib.hid (R1_5.out.below hb6 (by omega))
  have Nx1_6 := Lib.hid (Nx1_5.out.below hb6 (by omega))
  have B6 := Lib.hid (B5.out.trans (hb6.mono (by omega)))
  have Ny1_6 := Lib.hid hN6
  clear hb6 hN6
  go_wp2_with fail
  refine (eqInt64SS_row _ _ _ _ xx1 xy1 _ _ ps1 hl2_1 hs2_1 _ Nx1_6.out.row Ny1_6.out.row (by omega) (by omega)).mono ?_
  rintro e w7 ⟨rfl, hb7⟩
  have hz7 := hb7.size
  have R1_7 := Lib.hid (R1_6.out.below hb7 (by omega))
  have Nx1_7 := Lib.hid (Nx1_6.out.below hb7 (by omega))
  have B7 := Lib.hid (B6.out.trans (hb7.mono (by omega)))
  clear hb7
  go_wp2
  go_ret
  exact ⟨rfl, B7.out⟩
end Go.Proofs.Ytncodnjnndjjaaa
