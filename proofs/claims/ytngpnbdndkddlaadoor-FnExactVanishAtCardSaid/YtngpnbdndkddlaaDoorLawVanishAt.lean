/-
  'FnExactVanishAt' returns true at every input for which the two functions' contracts stand: the program's VanishAt and its model's return the same bool and code, and the tables read as before.
-/
import Derived.Test.YtngpnbdndkddlaaDoorTabs
namespace Go.Proofs.YtngpnbdndkddlaaDoor
open Go.RowKit

set_option maxRecDepth 100000 in
set_option maxHeartbeats 8000000 in
theorem law_VanishAt (n0 : Int) (n2 : Int) (a : Option Addr) (cap : Nat) (ts : Tabs) (hl : ts.length ≤ maxLen) (hs : ∀ i (h : i < ts.length), (ts[i]).length ≤ maxLen ∧ ∀ j (h2 : j < (ts[i]).length), ((ts[i])[j]).length ≤ maxLen) (w : World) (hr : TRow 0 w.heap.size w a ts) (z' : Bool) (c' : Int)
    (hS : ∀ (W : World) (b : Option Addr) (k : Nat), ts.length ≤ 1048576 → sz3 ts ≤ 1048576 → TRow 0 W.heap.size W b ts → Calls Tryd.prog 26 #[.int .i64 n0, .slice b ts.length k, .int .i64 n2] W fun e w' => e = .returned (.tuple #[.bool z', .int .i64 c']) ∧ Below W.heap.size W w')
    (hI : ∀ (W : World) (b : Option Addr) (k : Nat), ts.length ≤ 1048576 → sz3 ts ≤ 1048576 → TRow 0 W.heap.size W b ts → Calls Tryd.prog 27 #[.int .i64 n0, .slice b ts.length k, .int .i64 n2] W fun e w' => e = .returned (.tuple #[.bool z', .int .i64 c']) ∧ Below W.heap.size W w')
    : Calls Tryd.prog 6 #[.int .i64 n0, .slice a ts.length cap, .int .i64 n2] w fun e w' => e = .returned (.bool true) ∧ Below w.heap.size w w' := by
  have HSp := Lib.hid hS
  have HIm := Lib.hid hI
  have R_0 := Lib.hid hr
  have HS := Lib.hid hs
  clear hS hI hs hr
  go_enter Tryd.func6, Tryd.ntmps6
  go_wp2_with fail
  refine (szInt64SSS_c 0 w.heap.size a cap ts hl HS.out 1048576 (by omega) _ R_0.out (by omega)).mono ?_
  rintro e w1 ⟨he, hb1⟩
  have hz1 := hb1.size
  have R_1 := Lib.hid (R_0.out.below hb1 (by omega))
  have B1 := Lib.hid ((hb1))
  rcases he with rfl | ⟨r, hr0, hr1, rfl⟩
  · go_wp2
    go_ret
    exact ⟨rfl, B1.out⟩
  have hl2 : ts.length ≤ 1048576 := by omega
  have hs2 : sz3 ts ≤ 1048576 := by omega
  have hff := flat3_sz3 ts
  clear hr1 hb1
  go_wp2_with fail
  refine (toInt64SSS_c 0 w.heap.size a cap ts hl2 hs2 _ R_1.out (by omega)).mono ?_
  rintro e w2 ⟨xs, rfl, hb2, hN2⟩
  have hz2 := hb2.size
  have R_2 := Lib.hid (R_1.out.below hb2 (by omega))
  have B2 := Lib.hid (B1.out.trans (hb2.mono (by omega)))
  have Ns_2 := Lib.hid hN2
  clear hb2 hN2
  go_wp2_with fail
  refine (HSp.out _ _ _ hl2 hs2 (Ns_2.out.row.mono (by omega) (by omega))).mono ?_
  rintro e w3 ⟨rfl, hb3⟩
  clear Ns_2
  have hz3 := hb3.size
  have R_3 := Lib.hid (R_2.out.below hb3 (by omega))
  have B3 := Lib.hid (B2.out.trans (hb3.mono (by omega)))
  clear hb3 HSp
  go_wp2_with fail
  refine (toInt64SSS_c 0 w.heap.size a cap ts hl2 hs2 _ R_3.out (by omega)).mono ?_
  rintro e w4 ⟨xx, rfl, hb4, hN4⟩
  have hz4 := hb4.size
  have R_4 := Lib.hid (R_3.out.below hb4 (by omega))
  have B4 := Lib.hid (B3.out.trans (hb4.mono (by omega)))
  have Nx_4 := Lib.hid hN4
  clear hb4 hN4
  go_wp2_with fail
  refine (HIm.out _ _ _ hl2 hs2 (Nx_4.out.row.mono (by omega) (by omega))).mono ?_
  rintro e w5 ⟨rfl, hb5⟩
  have hz5 := hb5.size
  have R_5 := Lib.hid (R_4.out.below hb5 (by omega))
  have Nx_5 := Lib.hid (Nx_4.out.below hb5 (by omega))
  have B5 := Lib.hid (B4.out.trans (hb5.mono (by omega)))
  clear hb5
  go_wp2_with fail
  refine (toInt64SSS_c 0 w.heap.size a cap ts hl2 hs2 _ R_5.out (by omega)).mono ?_
  rintro e w6 ⟨xy, rfl, hb6, hN6⟩
  have hz6 := hb6.size
  have R_6 := Lib.hid (R_5.out.below hb6 (by omega))
  have Nx_6 := Lib.hid (Nx_5.out.below hb6 (by omega))
  have B6 := Lib.hid (B5.out.trans (hb6.mono (by omega)))
  have Ny_6 := Lib.hid hN6
  clear hb6 hN6
  go_wp2_with fail
  refine (eqInt64SSS_row _ _ _ _ xx xy _ _ ts hl2 hs2 _ Nx_6.out.row Ny_6.out.row (by omega) (by omega)).mono ?_
  rintro e w7 ⟨rfl, hb7⟩
  clear Ny_6
  have hz7 := hb7.size
  have R_7 := Lib.hid (R_6.out.below hb7 (by omega))
  have Nx_7 := Lib.hid (Nx_6.out.below hb7 (by omega))
  have B7 := Lib.hid (B6.out.trans (hb7.mono (by omega)))
  clear hb7
  go_wp2
  go_ret
  exact ⟨rfl, B7.out⟩
end Go.Proofs.YtngpnbdndkddlaaDoor
