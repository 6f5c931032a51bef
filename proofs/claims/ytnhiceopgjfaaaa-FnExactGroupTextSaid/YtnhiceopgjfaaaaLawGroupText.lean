/-
  'FnExactGroupText' returns true at every input for which the two functions' contracts stand: the program's GroupText and its model's return the same text and code.
-/
import Derived.Test.YtnhiceopgjfaaaaIntC
namespace Go.Proofs.Ytnhiceopgjfaaaa
open Go.RowKit

set_option maxRecDepth 100000 in
set_option maxHeartbeats 8000000 in
theorem law_GroupText (n0 : Int) (a1 : Option Addr) (cap1 : Nat) (ps1 : List Int) (_hl1 : ps1.length ≤ maxLen) (w : World) (hr1 : IRow 0 w.heap.size w a1 ps1) (z' : ByteArray) (c' : Int)
    (hS : ∀ (W : World) (b1 : Option Addr) (k1 : Nat), ps1.length ≤ 1048576 → IRow 0 W.heap.size W b1 ps1 → Calls Try.prog 36 #[.int .i64 n0, .slice b1 ps1.length k1] W fun e w' => e = .returned (.tuple #[.string z', .int .i64 c']) ∧ Below W.heap.size W w')
    (hI : ∀ (W : World) (b1 : Option Addr) (k1 : Nat), ps1.length ≤ 1048576 → IRow 0 W.heap.size W b1 ps1 → Calls Try.prog 37 #[.int .i64 n0, .slice b1 ps1.length k1] W fun e w' => e = .returned (.tuple #[.string z', .int .i64 c']) ∧ Below W.heap.size W w')
    : Calls Try.prog 11 #[.int .i64 n0, .slice a1 ps1.length cap1] w fun e w' => e = .returned (.bool true) ∧ Below w.heap.size w w' := by
  have HSp := Lib.hid hS
  have HIm := Lib.hid hI
  have R1_0 := Lib.hid hr1
  clear hS hI hr1
  by_cases hbig1 : (1048576 : Int) < (ps1.length : Int)
  · go_enter Try.func11, Try.ntmps11
    go_wp2
    go_ret
    exact ⟨rfl, Below.refl _ _⟩
  have hl2_1 : ps1.length ≤ 1048576 := by omega
  go_enter Try.func11, Try.ntmps11
  go_wp2_with fail
  refine (toInt64S_new 0 w.heap.size a1 cap1 ps1 hl2_1 _ R1_0.out (by omega)).mono ?_
  rintro e w1 ⟨xs1, rfl, hb1, hN1⟩
  have hz1 := hb1.size
  have R1_1 := Lib.hid (R1_0.out.below hb1 (by omega))
  have B1 := Lib.hid ((hb1))
  have Ns1_1 := Lib.hid hN1
  clear hb1 hN1
  go_wp2_with fail
  refine (HSp.out _ _ _ hl2_1 (Ns1_1.out.row.mono (by omega) (by omega))).mono ?_
  rintro e w2 ⟨rfl, hb2⟩
  have hz2 := hb2.size
  have R1_2 := Lib.hid (R1_1.out.below hb2 (by omega))
  have Ns1_2 := Lib.hid (Ns1_1.out.below hb2 (by omega))
  have B2 := Lib.hid (B1.out.trans (hb2.mono (by omega)))
  clear hb2
  clear Ns1_2
  clear HSp
  go_wp2_with fail
  refine (toInt64S_new 0 w.heap.size a1 cap1 ps1 hl2_1 _ R1_2.out (by omega)).mono ?_
  rintro e w3 ⟨xx1, rfl, hb3, hN3⟩
  have hz3 := hb3.size
  have R1_3 := Lib.hid (R1_2.out.below hb3 (by omega))
  have B3 := Lib.hid (B2.out.trans (hb3.mono (by omega)))
  have Nx1_3 := Lib.hid hN3
  clear hb3 hN3
  go_wp2_with fail
  refine (HIm.out _ _ _ hl2_1 (Nx1_3.out.row.mono (by omega) (by omega))).mono ?_
  rintro e w4 ⟨rfl, hb4⟩
  have hz4 := hb4.size
  have R1_4 := Lib.hid (R1_3.out.below hb4 (by omega))
  have Nx1_4 := Lib.hid (Nx1_3.out.below hb4 (by omega))
  have B4 := Lib.hid (B3.out.trans (hb4.mono (by omega)))
  clear hb4
  go_wp2_with fail
  refine (toInt64S_new 0 w.heap.size a1 cap1 ps1 hl2_1 _ R1_4.out (by omega)).mono ?_
  rintro e w5 ⟨xy1, rfl, hb5, hN5⟩
  have hz5 := hb5.size
  have R1_5 := Lib.hid (R1_4.out.below hb5 (by omega))
  have Nx1_5 := Lib.hid (Nx1_4.out.below hb5 (by omega))
  have B5 := Lib.hid (B4.out.trans (hb5.mono (by omega)))
  have Ny1_5 := Lib.hid hN5
  clear hb5 hN5
  go_wp2_with fail
  refine (eqInt64S_row _ _ _ _ xx1 xy1 _ _ ps1 hl2_1 _ Nx1_5.out.row Ny1_5.out.row (by omega) (by omega)).mono ?_
  rintro e w6 ⟨rfl, hb6⟩
  clear Ny1_5
  have hz6 := hb6.size
  have R1_6 := Lib.hid (R1_5.out.below hb6 (by omega))
  have Nx1_6 := Lib.hid (Nx1_5.out.below hb6 (by omega))
  have B6 := Lib.hid (B5.out.trans (hb6.mono (by omega)))
  clear hb6
  go_wp2
  go_ret
  exact ⟨rfl, B6.out⟩
end Go.Proofs.Ytnhiceopgjfaaaa
