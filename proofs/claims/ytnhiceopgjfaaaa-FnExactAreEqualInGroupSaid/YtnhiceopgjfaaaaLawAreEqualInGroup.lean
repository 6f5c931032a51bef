/-
  'FnExactAreEqualInGroup' returns true at every input for which the two functions' contracts stand: the program's AreEqualInGroup and its model's return the same bool and code.
-/
import Derived.Test.YtnhiceopgjfaaaaIntC
namespace Go.Proofs.Ytnhiceopgjfaaaa
open Go.RowKit

set_option maxRecDepth 100000 in
set_option maxHeartbeats 8000000 in
theorem law_AreEqualInGroup (n0 : Int) (a1 : Option Addr) (cap1 : Nat) (ps1 : List Int) (_hl1 : ps1.length ≤ maxLen) (a2 : Option Addr) (cap2 : Nat) (ps2 : List Int) (_hl2 : ps2.length ≤ maxLen) (w : World) (hr1 : IRow 0 w.heap.size w a1 ps1) (hr2 : IRow 0 w.heap.size w a2 ps2) (z' : Bool) (c' : Int)
    (hS : ∀ (W : World) (b1 : Option Addr) (k1 : Nat) (b2 : Option Addr) (k2 : Nat), ps1.length ≤ 1048576 → ps2.length ≤ 1048576 → IRow 0 W.heap.size W b1 ps1 → IRow 0 W.heap.size W b2 ps2 → Calls Try.prog 34 #[.int .i64 n0, .slice b1 ps1.length k1, .slice b2 ps2.length k2] W fun e w' => e = .returned (.tuple #[.bool z', .int .i64 c']) ∧ Below W.heap.size W w')
    (hI : ∀ (W : World) (b1 : Option Addr) (k1 : Nat) (b2 : Option Addr) (k2 : Nat), ps1.length ≤ 1048576 → ps2.length ≤ 1048576 → IRow 0 W.heap.size W b1 ps1 → IRow 0 W.heap.size W b2 ps2 → Calls Try.prog 35 #[.int .i64 n0, .slice b1 ps1.length k1, .slice b2 ps2.length k2] W fun e w' => e = .returned (.tuple #[.bool z', .int .i64 c']) ∧ Below W.heap.size W w')
    : Calls Try.prog 10 #[.int .i64 n0, .slice a1 ps1.length cap1, .slice a2 ps2.length cap2] w fun e w' => e = .returned (.bool true) ∧ Below w.heap.size w w' := by
  have HSp := Lib.hid hS
  have HIm := Lib.hid hI
  have R1_0 := Lib.hid hr1
  have R2_0 := Lib.hid hr2
  clear hS hI hr1 hr2
  by_cases hbig1 : (1048576 : Int) < (ps1.length : Int)
  · go_enter Try.func10, Try.ntmps10
    go_wp2
    go_ret
    exact ⟨rfl, Below.refl _ _⟩
  have hl2_1 : ps1.length ≤ 1048576 := by omega
  by_cases hbig2 : (1048576 : Int) < (ps2.length : Int)
  · go_enter Try.func10, Try.ntmps10
    go_wp2
    go_ret
    exact ⟨rfl, Below.refl _ _⟩
  have hl2_2 : ps2.length ≤ 1048576 := by omega
  go_enter Try.func10, Try.ntmps10
  go_wp2_with fail
  refine (toInt64S_new 0 w.heap.size a1 cap1 ps1 hl2_1 _ R1_0.out (by omega)).mono ?_
  rintro e w1 ⟨xs1, rfl, hb1, hN1⟩
  have hz1 := hb1.size
  have R1_1 := Lib.hid (R1_0.out.below hb1 (by omega))
  have R2_1 := Lib.hid (R2_0.out.below hb1 (by omega))
  have B1 := Lib.hid ((hb1))
  have Ns1_1 := Lib.hid hN1
  clear hb1 hN1
  go_wp2_with fail
  refine (toInt64S_new 0 w.heap.size a2 cap2 ps2 hl2_2 _ R2_1.out (by omega)).mono ?_
  rintro e w2 ⟨xs2, rfl, hb2, hN2⟩
  have hz2 := hb2.size
  have R1_2 := Lib.hid (R1_1.out.below hb2 (by omega))
  have R2_2 := Lib.hid (R2_1.out.below hb2 (by omega))
  have Ns1_2 := Lib.hid (Ns1_1.out.below hb2 (by omega))
  have B2 := Lib.hid (B1.out.trans (hb2.mono (by omega)))
  have Ns2_2 := Lib.hid hN2
  clear hb2 hN2
  go_wp2_with fail
  refine (HSp.out _ _ _ _ _ hl2_1 hl2_2 (Ns1_2.out.row.mono (by omega) (by omega)) (Ns2_2.out.row.mono (by omega) (by omega))).mono ?_
  rintro e w3 ⟨rfl, hb3⟩
  have hz3 := hb3.size
  have R1_3 := Lib.hid (R1_2.out.below hb3 (by omega))
  have R2_3 := Lib.hid (R2_2.out.below hb3 (by omega))
  have Ns1_3 := Lib.hid (Ns1_2.out.below hb3 (by omega))
  have Ns2_3 := Lib.hid (Ns2_2.out.below hb3 (by omega))
  have B3 := Lib.hid (B2.out.trans (hb3.mono (by omega)))
  clear hb3
  clear Ns1_3
  clear Ns2_3
  clear HSp
  go_wp2_with fail
  refine (toInt64S_new 0 w.heap.size a1 cap1 ps1 hl2_1 _ R1_3.out (by omega)).mono ?_
  rintro e w4 ⟨xx1, rfl, hb4, hN4⟩
  have hz4 := hb4.size
  have R1_4 := Lib.hid (R1_3.out.below hb4 (by omega))
  have R2_4 := Lib.hid (R2_3.out.below hb4 (by omega))
  have B4 := Lib.hid (B3.out.trans (hb4.mono (by omega)))
  have Nx1_4 := Lib.hid hN4
  clear hb4 hN4
  go_wp2_with fail
  refine (toInt64S_new 0 w.heap.size a2 cap2 ps2 hl2_2 _ R2_4.out (by omega)).mono ?_
  rintro e w5 ⟨xx2, rfl, hb5, hN5⟩
  have hz5 := hb5.size
  have R1_5 := Lib.hid (R1_4.out.below hb5 (by omega))
  have R2_5 := Lib.hid (R2_4.out.below hb5 (by omega))
  have Nx1_5 := Lib.hid (Nx1_4.out.below hb5 (by omega))
  have B5 := Lib.hid (B4.out.trans (hb5.mono (by omega)))
  have Nx2_5 := Lib.hid hN5
  clear hb5 hN5
  go_wp2_with fail
  refine (HIm.out _ _ _ _ _ hl2_1 hl2_2 (Nx1_5.out.row.mono (by omega) (by omega)) (Nx2_5.out.row.mono (by omega) (by omega))).mono ?_
  rintro e w6 ⟨rfl, hb6⟩
  have hz6 := hb6.size
  have R1_6 := Lib.hid (R1_5.out.below hb6 (by omega))
  have R2_6 := Lib.hid (R2_5.out.below hb6 (by omega))
  have Nx1_6 := Lib.hid (Nx1_5.out.below hb6 (by omega))
  have Nx2_6 := Lib.hid (Nx2_5.out.below hb6 (by omega))
  have B6 := Lib.hid (B5.out.trans (hb6.mono (by omega)))
  clear hb6
  go_wp2_with fail
  refine (toInt64S_new 0 w.heap.size a1 cap1 ps1 hl2_1 _ R1_6.out (by omega)).mono ?_
  rintro e w7 ⟨xy1, rfl, hb7, hN7⟩
  have hz7 := hb7.size
  have R1_7 := Lib.hid (R1_6.out.below hb7 (by omega))
  have R2_7 := Lib.hid (R2_6.out.below hb7 (by omega))
  have Nx1_7 := Lib.hid (Nx1_6.out.below hb7 (by omega))
  have Nx2_7 := Lib.hid (Nx2_6.out.below hb7 (by omega))
  have B7 := Lib.hid (B6.out.trans (hb7.mono (by omega)))
  have Ny1_7 := Lib.hid hN7
  clear hb7 hN7
  go_wp2_with fail
  refine (eqInt64S_row _ _ _ _ xx1 xy1 _ _ ps1 hl2_1 _ Nx1_7.out.row Ny1_7.out.row (by omega) (by omega)).mono ?_
  rintro e w8 ⟨rfl, hb8⟩
  clear Ny1_7
  have hz8 := hb8.size
  have R1_8 := Lib.hid (R1_7.out.below hb8 (by omega))
  have R2_8 := Lib.hid (R2_7.out.below hb8 (by omega))
  have Nx1_8 := Lib.hid (Nx1_7.out.below hb8 (by omega))
  have Nx2_8 := Lib.hid (Nx2_7.out.below hb8 (by omega))
  have B8 := Lib.hid (B7.out.trans (hb8.mono (by omega)))
  clear hb8
  go_wp2_with fail
  refine (toInt64S_new 0 w.heap.size a2 cap2 ps2 hl2_2 _ R2_8.out (by omega)).mono ?_
  rintro e w9 ⟨xy2, rfl, hb9, hN9⟩
  have hz9 := hb9.size
  have R1_9 := Lib.hid (R1_8.out.below hb9 (by omega))
  have R2_9 := Lib.hid (R2_8.out.below hb9 (by omega))
  have Nx1_9 := Lib.hid (Nx1_8.out.below hb9 (by omega))
  have Nx2_9 := Lib.hid (Nx2_8.out.below hb9 (by omega))
  have B9 := Lib.hid (B8.out.trans (hb9.mono (by omega)))
  have Ny2_9 := Lib.hid hN9
  clear hb9 hN9
  go_wp2_with fail
  refine (eqInt64S_row _ _ _ _ xx2 xy2 _ _ ps2 hl2_2 _ Nx2_9.out.row Ny2_9.out.row (by omega) (by omega)).mono ?_
  rintro e w10 ⟨rfl, hb10⟩
  clear Ny2_9
  have hz10 := hb10.size
  have R1_10 := Lib.hid (R1_9.out.below hb10 (by omega))
  have R2_10 := Lib.hid (R2_9.out.below hb10 (by omega))
  have Nx1_10 := Lib.hid (Nx1_9.out.below hb10 (by omega))
  have Nx2_10 := Lib.hid (Nx2_9.out.below hb10 (by omega))
  have B10 := Lib.hid (B9.out.trans (hb10.mono (by omega)))
  clear hb10
  go_wp2
  go_ret
  exact ⟨rfl, B10.out⟩
end Go.Proofs.Ytnhiceopgjfaaaa
