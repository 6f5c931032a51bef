/-
  'FnExactSumsOf' returns true at every input for which the two functions' contracts stand: the program's SumsOf and its model's return the same numbers and code, in memory of their own.
-/
import Derived.Test.YtncodnjnndjjaaaIntC
namespace Go.Proofs.Ytncodnjnndjjaaa
open Go.RowKit

set_option maxRecDepth 100000 in
set_option maxHeartbeats 8000000 in
theorem law_SumsOf (a0 : Option Addr) (cap0 : Nat) (ps0 : List Int) (_hl0 : ps0.length ≤ maxLen) (w : World) (hr0 : IRow 0 w.heap.size w a0 ps0) (zs' : List Int) (c' : Int) (hz' : zs'.length ≤ 1048576)
    (hS : ∀ (W : World) (b0 : Option Addr), ps0.length ≤ 1048576 → IRow 0 W.heap.size W b0 ps0 → Calls Try.prog 31 #[.slice b0 ps0.length ps0.length] W (NumsPost zs' c' W))
    (hI : ∀ (W : World) (b0 : Option Addr), ps0.length ≤ 1048576 → IRow 0 W.heap.size W b0 ps0 → Calls Try.prog 32 #[.slice b0 ps0.length ps0.length] W (NumsPost zs' c' W))
    : Calls Try.prog 9 #[.slice a0 ps0.length cap0] w fun e w' => e = .returned (.bool true) ∧ Below w.heap.size w w' := by
  have HSp := Lib.hid hS
  have HIm := Lib.hid hI
  have R0_0 := Lib.hid hr0
  clear hS hI hr0
  by_cases hbig0 : (1048576 : Int) < (ps0.length : Int)
  · go_enter Try.func9, Try.ntmps9
    go_wp2
    go_ret
    exact ⟨rfl, Below.refl _ _⟩
  have hl2_0 : ps0.length ≤ 1048576 := by omega
  go_enter Try.func9, Try.ntmps9
  go_wp2_with fail
  refine (toInt64S_new 0 w.heap.size a0 cap0 ps0 hl2_0 _ R0_0.out (by omega)).mono ?_
  rintro e w1 ⟨xs0, rfl, hb1, hN1⟩
  have hz1 := hb1.size
  have R0_1 := Lib.hid (R0_0.out.below hb1 (by omega))
  have B1 := Lib.hid ((hb1))
  have Ns0_1 := Lib.hid hN1
  clear hb1 hN1
  go_wp2_with fail
  refine (HSp.out _ _ hl2_0 (Ns0_1.out.row.mono (by omega) (by omega))).mono ?_
  rintro e w2 ⟨xw, cw, rfl, hb2, hN2⟩
  have hz2 := hb2.size
  have R0_2 := Lib.hid (R0_1.out.below hb2 (by omega))
  have Ns0_2 := Lib.hid (Ns0_1.out.below hb2 (by omega))
  have B2 := Lib.hid (B1.out.trans (hb2.mono (by omega)))
  have Nw_2 := Lib.hid hN2
  clear hb2 hN2
  clear Ns0_2
  clear HSp
  go_wp2_with fail
  refine (toInt64S_new 0 w.heap.size a0 cap0 ps0 hl2_0 _ R0_2.out (by omega)).mono ?_
  rintro e w3 ⟨xx0, rfl, hb3, hN3⟩
  have hz3 := hb3.size
  have R0_3 := Lib.hid (R0_2.out.below hb3 (by omega))
  have Nw_3 := Lib.hid (Nw_2.out.below hb3 (by omega))
  have B3 := Lib.hid (B2.out.trans (hb3.mono (by omega)))
  have Nx0_3 := Lib.hid hN3
  clear hb3 hN3
  go_wp2_with fail
  refine (HIm.out _ _ hl2_0 (Nx0_3.out.row.mono (by omega) (by omega))).mono ?_
  rintro e w4 ⟨xg, cg, rfl, hb4, hN4⟩
  have hz4 := hb4.size
  have R0_4 := Lib.hid (R0_3.out.below hb4 (by omega))
  have Nw_4 := Lib.hid (Nw_3.out.below hb4 (by omega))
  have Nx0_4 := Lib.hid (Nx0_3.out.below hb4 (by omega))
  have B4 := Lib.hid (B3.out.trans (hb4.mono (by omega)))
  have Ng_4 := Lib.hid hN4
  clear hb4 hN4
  go_wp2_with fail
  refine (eqInt64S_row _ _ _ _ xg xw _ _ zs' hz' _ Ng_4.out.row Nw_4.out.row (by omega) (by omega)).mono ?_
  rintro e w5 ⟨rfl, hb5⟩
  have hz5 := hb5.size
  have R0_5 := Lib.hid (R0_4.out.below hb5 (by omega))
  have Nw_5 := Lib.hid (Nw_4.out.below hb5 (by omega))
  have Nx0_5 := Lib.hid (Nx0_4.out.below hb5 (by omega))
  have Ng_5 := Lib.hid (Ng_4.out.below hb5 (by omega))
  have B5 := Lib.hid (B4.out.trans (hb5.mono (by omega)))
  clear hb5
  go_wp2_with fail
  refine (toInt64S_new 0 w.heap.size a0 cap0 ps0 hl2_0 _ R0_5.out (by omega)).mono ?_
  rintro e w6 ⟨xy0, rfl, hb6, hN6⟩
  have hz6 := hb6.size
  have R0_6 := Lib.hid (R0_5.out.below hb6 (by omega))
  have Nw_6 := Lib.hid (Nw_5.out.below hb6 (by omega))
  have Nx0_6 := Lib.hid (Nx0_5.out.below hb6 (by omega))
  have Ng_6 := Lib.hid (Ng_5.out.below hb6 (by omega))
  have B6 := Lib.hid (B5.out.trans (hb6.mono (by omega)))
  have Ny0_6 := Lib.hid hN6
  clear hb6 hN6
  go_wp2_with fail
  refine (eqInt64S_row _ _ _ _ xx0 xy0 _ _ ps0 hl2_0 _ Nx0_6.out.row Ny0_6.out.row (by omega) (by omega)).mono ?_
  rintro e w7 ⟨rfl, hb7⟩
  clear Ny0_6
  have hz7 := hb7.size
  have R0_7 := Lib.hid (R0_6.out.below hb7 (by omega))
  have Nw_7 := Lib.hid (Nw_6.out.below hb7 (by omega))
  have Nx0_7 := Lib.hid (Nx0_6.out.below hb7 (by omega))
  have Ng_7 := Lib.hid (Ng_6.out.below hb7 (by omega))
  have B7 := Lib.hid (B6.out.trans (hb7.mono (by omega)))
  clear hb7
  go_wp2_with fail
  refine (markInt64S_row (w2.heap.size) (w3.heap.size) xx0 _ ps0 (1) (by omega) (by omega) _ Nx0_7.out).mono ?_
  rintro e w8 ⟨rr0, rfl, hG, hrr, hN8⟩
  have hO8 := Outside.of_grown hG (fun g h => ⟨(hrr g h).1, (hrr g h).2.1⟩)
  clear Nx0_7
  have hz8 := hO8.size
  have R0_8 := Lib.hid (R0_7.out.outside hO8 (by omega) (by omega))
  have Nw_8 := Lib.hid (Nw_7.out.outside hO8 (by omega))
  have Ng_8 := Lib.hid (Ng_7.out.outside hO8 (by omega))
  have B8 := Lib.hid (B7.out.trans (hO8.below (B := w.heap.size) (by omega) (by omega)))
  clear hO8 hN8 hG hrr
  have hk8 : (0 : Int) ≤ 1 + (ps0.length : Int) := by omega
  go_wp2_with fail
  refine (eqInt64S_row _ _ _ _ xg xw _ _ zs' hz' _ Ng_8.out.row Nw_8.out.row (by omega) (by omega)).mono ?_
  rintro e w9 ⟨rfl, hb9⟩
  have hz9 := hb9.size
  have R0_9 := Lib.hid (R0_8.out.below hb9 (by omega))
  have Nw_9 := Lib.hid (Nw_8.out.below hb9 (by omega))
  have Ng_9 := Lib.hid (Ng_8.out.below hb9 (by omega))
  have B9 := Lib.hid (B8.out.trans (hb9.mono (by omega)))
  clear hb9
  go_wp2_with fail
  refine (markInt64S_row (w3.heap.size) (w4.heap.size) xg _ zs' 1 (by omega) (by omega) _ Ng_9.out).mono ?_
  rintro e w10 ⟨rr, rfl, hG, hrr, hN10⟩
  have hO10 := Outside.of_grown hG (fun g h => ⟨(hrr g h).1, (hrr g h).2.1⟩)
  clear Ng_9
  have hz10 := hO10.size
  have R0_10 := Lib.hid (R0_9.out.outside hO10 (by omega) (by omega))
  have Nw_10 := Lib.hid (Nw_9.out.outside hO10 (by omega))
  have B10 := Lib.hid (B9.out.trans (hO10.below (B := w.heap.size) (by omega) (by omega)))
  have M_10 := Lib.hid hN10
  clear hO10 hN10 hG hrr
  have hm10 : (0 : Int) ≤ 1 + (zs'.length : Int) := by omega
  go_wp2_with fail
  refine (heldInt64S_row (w3.heap.size) (w4.heap.size) xg _ zs' 1 (by omega) (by omega) _ M_10.out).mono ?_
  rintro e w11 ⟨rfl, hb11⟩
  have hz11 := hb11.size
  have R0_11 := Lib.hid (R0_10.out.below hb11 (by omega))
  have Nw_11 := Lib.hid (Nw_10.out.below hb11 (by omega))
  have M_11 := Lib.hid (M_10.out.below hb11 (by omega))
  have B11 := Lib.hid (B10.out.trans (hb11.mono (by omega)))
  clear hb11
  go_wp2_with fail
  refine (toInt64S_new 0 w.heap.size a0 cap0 ps0 hl2_0 _ R0_11.out (by omega)).mono ?_
  rintro e w12 ⟨xz0, rfl, hb12, hN12⟩
  have hz12 := hb12.size
  have R0_12 := Lib.hid (R0_11.out.below hb12 (by omega))
  have Nw_12 := Lib.hid (Nw_11.out.below hb12 (by omega))
  have M_12 := Lib.hid (M_11.out.below hb12 (by omega))
  have B12 := Lib.hid (B11.out.trans (hb12.mono (by omega)))
  have Nz0_12 := Lib.hid hN12
  clear hb12 hN12
  go_wp2_with fail
  refine (HIm.out _ _ hl2_0 (Nz0_12.out.row.mono (by omega) (by omega))).mono ?_
  rintro e w13 ⟨xh, ch, rfl, hb13, hN13⟩
  have hz13 := hb13.size
  have R0_13 := Lib.hid (R0_12.out.below hb13 (by omega))
  have Nw_13 := Lib.hid (Nw_12.out.below hb13 (by omega))
  have M_13 := Lib.hid (M_12.out.below hb13 (by omega))
  have Nz0_13 := Lib.hid (Nz0_12.out.below hb13 (by omega))
  have B13 := Lib.hid (B12.out.trans (hb13.mono (by omega)))
  have Nh_13 := Lib.hid hN13
  clear hb13 hN13
  clear Nz0_13
  clear HIm
  go_wp2_with fail
  refine (eqInt64S_row _ _ _ _ xh xw _ _ zs' hz' _ Nh_13.out.row Nw_13.out.row (by omega) (by omega)).mono ?_
  rintro e w14 ⟨rfl, hb14⟩
  have hz14 := hb14.size
  have R0_14 := Lib.hid (R0_13.out.below hb14 (by omega))
  have Nw_14 := Lib.hid (Nw_13.out.below hb14 (by omega))
  have M_14 := Lib.hid (M_13.out.below hb14 (by omega))
  have Nh_14 := Lib.hid (Nh_13.out.below hb14 (by omega))
  have B14 := Lib.hid (B13.out.trans (hb14.mono (by omega)))
  clear hb14
  go_wp2_with fail
  refine (heldInt64S_row (w3.heap.size) (w4.heap.size) xg _ zs' 1 (by omega) (by omega) _ M_14.out).mono ?_
  rintro e w15 ⟨rfl, hb15⟩
  have hz15 := hb15.size
  have R0_15 := Lib.hid (R0_14.out.below hb15 (by omega))
  have Nw_15 := Lib.hid (Nw_14.out.below hb15 (by omega))
  have M_15 := Lib.hid (M_14.out.below hb15 (by omega))
  have Nh_15 := Lib.hid (Nh_14.out.below hb15 (by omega))
  have B15 := Lib.hid (B14.out.trans (hb15.mono (by omega)))
  clear hb15
  go_wp2
  go_ret
  exact ⟨rfl, B15.out⟩
end Go.Proofs.Ytncodnjnndjjaaa
