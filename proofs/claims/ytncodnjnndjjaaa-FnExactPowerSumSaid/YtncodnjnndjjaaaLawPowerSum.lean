/-
  'FnExactPowerSum' returns true at every input for which the two functions' contracts stand: the program's PowerSum and its model's return the same number and code.
-/
import Derived.Test.YtncodnjnndjjaaaIntC
namespace Go.Proofs.Ytncodnjnndjjaaa
open Go.RowKit

set_option maxRecDepth 100000 in
set_option maxHeartbeats 8000000 in
theorem law_PowerSum (a0 : Option Addr) (cap0 : Nat) (ps0 : List Int) (_hl0 : ps0.length ≤ maxLen) (a1 : Option Addr) (cap1 : Nat) (ps1 : List Int) (_hl1 : ps1.length ≤ maxLen) (w : World) (hr0 : IRow 0 w.heap.size w a0 ps0) (hr1 : IRow 0 w.heap.size w a1 ps1) (z' c' : Int)
    (hS : ∀ (W : World) (b0 : Option Addr) (b1 : Option Addr), ps0.length ≤ 1048576 → ps1.length ≤ 1048576 → IRow 0 W.heap.size W b0 ps0 → IRow 0 W.heap.size W b1 ps1 → Calls Try.prog 17 #[.slice b0 ps0.length ps0.length, .slice b1 ps1.length ps1.length] W fun e w' => e = .returned (.tuple #[.int .i64 z', .int .i64 c']) ∧ Below W.heap.size W w')
    (hI : ∀ (W : World) (b0 : Option Addr) (b1 : Option Addr), ps0.length ≤ 1048576 → ps1.length ≤ 1048576 → IRow 0 W.heap.size W b0 ps0 → IRow 0 W.heap.size W b1 ps1 → Calls Try.prog 19 #[.slice b0 ps0.length ps0.length, .slice b1 ps1.length ps1.length] W fun e w' => e = .returned (.tuple #[.int .i64 z', .int .i64 c']) ∧ Below W.heap.size W w')
    : Calls Try.prog 5 #[.slice a0 ps0.length cap0, .slice a1 ps1.length cap1] w fun e w' => e = .returned (.bool true) ∧ Below w.heap.size w w' := by
  have HSp := Lib.hid hS
  have HIm := Lib.hid hI
  have R0_0 := Lib.hid hr0
  have R1_0 := Lib.hid hr1
  clear hS hI hr0 hr1
  by_cases hbig0 : (1048576 : Int) < (ps0.length : Int)
  · go_enter Try.func5, Try.ntmps5
    go_wp2
    go_ret
    exact ⟨rfl, Below.refl _ _⟩
  have hl2_0 : ps0.length ≤ 1048576 := by omega
  by_cases hbig1 : (1048576 : Int) < (ps1.length : Int)
  · go_enter Try.func5, Try.ntmps5
    go_wp2
    go_ret
    exact ⟨rfl, Below.refl _ _⟩
  have hl2_1 : ps1.length ≤ 1048576 := by omega
  go_enter Try.func5, Try.ntmps5
  go_wp2_with fail
  refine (toInt64S_new 0 w.heap.size a0 cap0 ps0 hl2_0 _ R0_0.out (by omega)).mono ?_
  rintro e w1 ⟨xs0, rfl, hb1, hN1⟩
  have hz1 := hb1.size
  have R0_1 := Lib.hid (R0_0.out.below hb1 (by omega))
  have R1_1 := Lib.hid (R1_0.out.below hb1 (by omega))
  have B1 := Lib.hid ((hb1))
  have Ns0_1 := Lib.hid hN1
  clear hb1 hN1
  go_wp2_with fail
  refine (toInt64S_new 0 w.heap.size a1 cap1 ps1 hl2_1 _ R1_1.out (by omega)).mono ?_
  rintro e w2 ⟨xs1, rfl, hb2, hN2⟩
  have hz2 := hb2.size
  have R0_2 := Lib.hid (R0_1.out.below hb2 (by omega))
  have R1_2 := Lib.hid (R1_1.out.below hb2 (by omega))
  have Ns0_2 := Lib.hid (Ns0_1.out.below hb2 (by omega))
  have B2 := Lib.hid (B1.out.trans (hb2.mono (by omega)))
  have Ns1_2 := Lib.hid hN2
  clear hb2 hN2
  go_wp2_with fail
  refine (HSp.out _ _ _ hl2_0 hl2_1 (Ns0_2.out.row.mono (by omega) (by omega)) (Ns1_2.out.row.mono (by omega) (by omega))).mono ?_
  rintro e w3 ⟨rfl, hb3⟩
  have hz3 := hb3.size
  have R0_3 := Lib.hid (R0_2.out.below hb3 (by omega))
  have R1_3 := Lib.hid (R1_2.out.below hb3 (by omega))
  have Ns0_3 := Lib.hid (Ns0_2.out.below hb3 (by omega))
  have Ns1_3 := Lib.hid (Ns1_2.out.below hb3 (by omega))
  have B3 := Lib.hid (B2.out.trans (hb3.mono (by omega)))
  clear hb3
  clear Ns0_3
  clear Ns1_3
  clear HSp
  go_wp2_with fail
  refine (toInt64S_new 0 w.heap.size a0 cap0 ps0 hl2_0 _ R0_3.out (by omega)).mono ?_
  rintro e w4 ⟨xx0, rfl, hb4, hN4⟩
  have hz4 := hb4.size
  have R0_4 := Lib.hid (R0_3.out.below hb4 (by omega))
  have R1_4 := Lib.hid (R1_3.out.below hb4 (by omega))
  have B4 := Lib.hid (B3.out.trans (hb4.mono (by omega)))
  have Nx0_4 := Lib.hid hN4
  clear hb4 hN4
  go_wp2_with fail
  refine (toInt64S_new 0 w.heap.size a1 cap1 ps1 hl2_1 _ R1_4.out (by omega)).mono ?_
  rintro e w5 ⟨xx1, rfl, hb5, hN5⟩
  have hz5 := hb5.size
  have R0_5 := Lib.hid (R0_4.out.below hb5 (by omega))
  have R1_5 := Lib.hid (R1_4.out.below hb5 (by omega))
  have Nx0_5 := Lib.hid (Nx0_4.out.below hb5 (by omega))
  have B5 := Lib.hid (B4.out.trans (hb5.mono (by omega)))
  have Nx1_5 := Lib.hid hN5
  clear hb5 hN5
  go_wp2_with fail
  refine (HIm.out _ _ _ hl2_0 hl2_1 (Nx0_5.out.row.mono (by omega) (by omega)) (Nx1_5.out.row.mono (by omega) (by omega))).mono ?_
  rintro e w6 ⟨rfl, hb6⟩
  have hz6 := hb6.size
  have R0_6 := Lib.hid (R0_5.out.below hb6 (by omega))
  have R1_6 := Lib.hid (R1_5.out.below hb6 (by omega))
  have Nx0_6 := Lib.hid (Nx0_5.out.below hb6 (by omega))
  have Nx1_6 := Lib.hid (Nx1_5.out.below hb6 (by omega))
  have B6 := Lib.hid (B5.out.trans (hb6.mono (by omega)))
  clear hb6
  go_wp2_with fail
  refine (toInt64S_new 0 w.heap.size a0 cap0 ps0 hl2_0 _ R0_6.out (by omega)).mono ?_
  rintro e w7 ⟨xy0, rfl, hb7, hN7⟩
  have hz7 := hb7.size
  have R0_7 := Lib.hid (R0_6.out.below hb7 (by omega))
  have R1_7 := Lib.hid (R1_6.out.below hb7 (by omega))
  have Nx0_7 := Lib.hid (Nx0_6.out.below hb7 (by omega))
  have Nx1_7 := Lib.hid (Nx1_6.out.below hb7 (by omega))
  have B7 := Lib.hid (B6.out.trans (hb7.mono (by omega)))
  have Ny0_7 := Lib.hid hN7
  clear hb7 hN7
  go_wp2_with fail
  refine (eqInt64S_row _ _ _ _ xx0 xy0 _ _ ps0 hl2_0 _ Nx0_7.out.row Ny0_7.out.row (by omega) (by omega)).mono ?_
  rintro e w8 ⟨rfl, hb8⟩
  clear Ny0_7
  have hz8 := hb8.size
  have R0_8 := Lib.hid (R0_7.out.below hb8 (by omega))
  have R1_8 := Lib.hid (R1_7.out.below hb8 (by omega))
  have Nx0_8 := Lib.hid (Nx0_7.out.below hb8 (by omega))
  have Nx1_8 := Lib.hid (Nx1_7.out.below hb8 (by omega))
  have B8 := Lib.hid (B7.out.trans (hb8.mono (by omega)))
  clear hb8
  go_wp2_with fail
  refine (toInt64S_new 0 w.heap.size a1 cap1 ps1 hl2_1 _ R1_8.out (by omega)).mono ?_
  rintro e w9 ⟨xy1, rfl, hb9, hN9⟩
  have hz9 := hb9.size
  have R0_9 := Lib.hid (R0_8.out.below hb9 (by omega))
  have R1_9 := Lib.hid (R1_8.out.below hb9 (by omega))
  have Nx0_9 := Lib.hid (Nx0_8.out.below hb9 (by omega))
  have Nx1_9 := Lib.hid (Nx1_8.out.below hb9 (by omega))
  have B9 := Lib.hid (B8.out.trans (hb9.mono (by omega)))
  have Ny1_9 := Lib.hid hN9
  clear hb9 hN9
  go_wp2_with fail
  refine (eqInt64S_row _ _ _ _ xx1 xy1 _ _ ps1 hl2_1 _ Nx1_9.out.row Ny1_9.out.row (by omega) (by omega)).mono ?_
  rintro e w10 ⟨rfl, hb10⟩
  clear Ny1_9
  have hz10 := hb10.size
  have R0_10 := Lib.hid (R0_9.out.below hb10 (by omega))
  have R1_10 := Lib.hid (R1_9.out.below hb10 (by omega))
  have Nx0_10 := Lib.hid (Nx0_9.out.below hb10 (by omega))
  have Nx1_10 := Lib.hid (Nx1_9.out.below hb10 (by omega))
  have B10 := Lib.hid (B9.out.trans (hb10.mono (by omega)))
  clear hb10
  go_wp2
  go_ret
  exact ⟨rfl, B10.out⟩
end Go.Proofs.Ytncodnjnndjjaaa
