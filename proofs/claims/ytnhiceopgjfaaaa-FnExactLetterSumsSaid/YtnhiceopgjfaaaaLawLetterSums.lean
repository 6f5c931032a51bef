/-
  'FnExactLetterSums' returns true at every input for which the two functions' contracts stand: the program's LetterSums and its model's return the same numbers and code, in memory of their own.
-/
import Derived.Test.YtnhiceopgjfaaaaIntC
namespace Go.Proofs.Ytnhiceopgjfaaaa
open Go.RowKit

set_option maxRecDepth 100000 in
set_option maxHeartbeats 8000000 in
theorem law_LetterSums (n0 : Int) (a1 : Option Addr) (cap1 : Nat) (ps1 : List Int) (_hl1 : ps1.length ≤ maxLen) (w : World) (hr1 : IRow 0 w.heap.size w a1 ps1) (zs' : List Int) (c' : Int) (hz' : zs'.length ≤ 1048576)
    (hS : ∀ (W : World) (b1 : Option Addr) (k1 : Nat), ps1.length ≤ 1048576 → IRow 0 W.heap.size W b1 ps1 → Calls Try.prog 27 #[.int .i64 n0, .slice b1 ps1.length k1] W (NumsPost zs' c' W))
    (hI : ∀ (W : World) (b1 : Option Addr) (k1 : Nat), ps1.length ≤ 1048576 → IRow 0 W.heap.size W b1 ps1 → Calls Try.prog 28 #[.int .i64 n0, .slice b1 ps1.length k1] W (NumsPost zs' c' W))
    : Calls Try.prog 8 #[.int .i64 n0, .slice a1 ps1.length cap1] w fun e w' => e = .returned (.bool true) ∧ Below w.heap.size w w' := by
  have HSp := Lib.hid hS
  have HIm := Lib.hid hI
  have R1_0 := Lib.hid hr1
  clear hS hI hr1
  by_cases hbig1 : (1048576 : Int) < (ps1.length : Int)
  · go_enter Try.func8, Try.ntmps8
    go_wp2
    go_ret
    exact ⟨rfl, Below.refl _ _⟩
  have hl2_1 : ps1.length ≤ 1048576 := by omega
  go_enter Try.func8, Try.ntmps8
  go_wp2_with fail
  refine (toInt64S_new 0 w.heap.size a1 cap1 ps1 hl2_1 _ R1_0.out (by omega)).mono ?_
  rintro e w1 ⟨xs1, rfl, hb1, hN1⟩
  have hz1 := hb1.size
  have R1_1 := Lib.hid (R1_0.out.below hb1 (by omega))
  have B1 := Lib.hid ((hb1))
  have Ns1_1 := Lib.hid hN1
  clear hb1 hN1
  go_wp2_with fail
  refine (HSp.out _ _ _ hl2_1 (Ns1_1.out.row.mono (by omega) (by omega))).mono ?_
  rintro e w2 ⟨xw, cw, rfl, hb2, hN2⟩
  have hz2 := hb2.size
  have R1_2 := Lib.hid (R1_1.out.below hb2 (by omega))
  have Ns1_2 := Lib.hid (Ns1_1.out.below hb2 (by omega))
  have B2 := Lib.hid (B1.out.trans (hb2.mono (by omega)))
  have Nw_2 := Lib.hid hN2
  clear hb2 hN2
  clear Ns1_2
  clear HSp
  go_wp2_with fail
  refine (toInt64S_new 0 w.heap.size a1 cap1 ps1 hl2_1 _ R1_2.out (by omega)).mono ?_
  rintro e w3 ⟨xx1, rfl, hb3, hN3⟩
  have hz3 := hb3.size
  have R1_3 := Lib.hid (R1_2.out.below hb3 (by omega))
  have Nw_3 := Lib.hid (Nw_2.out.below hb3 (by omega))
  have B3 := Lib.hid (B2.out.trans (hb3.mono (by omega)))
  have Nx1_3 := Lib.hid hN3
  clear hb3 hN3
  go_wp2_with fail
  refine (HIm.out _ _ _ hl2_1 (Nx1_3.out.row.mono (by omega) (by omega))).mono ?_
  rintro e w4 ⟨xg, cg, rfl, hb4, hN4⟩
  have hz4 := hb4.size
  have R1_4 := Lib.hid (R1_3.out.below hb4 (by omega))
  have Nw_4 := Lib.hid (Nw_3.out.below hb4 (by omega))
  have Nx1_4 := Lib.hid (Nx1_3.out.below hb4 (by omega))
  have B4 := Lib.hid (B3.out.trans (hb4.mono (by omega)))
  have Ng_4 := Lib.hid hN4
  clear hb4 hN4
  go_wp2_with fail
  refine (eqInt64S_row _ _ _ _ xg xw _ _ zs' hz' _ Ng_4.out.row Nw_4.out.row (by omega) (by omega)).mono ?_
  rintro e w5 ⟨rfl, hb5⟩
  have hz5 := hb5.size
  have R1_5 := Lib.hid (R1_4.out.below hb5 (by omega))
  have Nw_5 := Lib.hid (Nw_4.out.below hb5 (by omega))
  have Nx1_5 := Lib.hid (Nx1_4.out.below hb5 (by omega))
  have Ng_5 := Lib.hid (Ng_4.out.below hb5 (by omega))
  have B5 := Lib.hid (B4.out.trans (hb5.mono (by omega)))
  clear hb5
  go_wp2_with fail
  refine (toInt64S_new 0 w.heap.size a1 cap1 ps1 hl2_1 _ R1_5.out (by omega)).mono ?_
  rintro e w6 ⟨xy1, rfl, hb6, hN6⟩
  have hz6 := hb6.size
  have R1_6 := Lib.hid (R1_5.out.below hb6 (by omega))
  have Nw_6 := Lib.hid (Nw_5.out.below hb6 (by omega))
  have Nx1_6 := Lib.hid (Nx1_5.out.below hb6 (by omega))
  have Ng_6 := Lib.hid (Ng_5.out.below hb6 (by omega))
  have B6 := Lib.hid (B5.out.trans (hb6.mono (by omega)))
  have Ny1_6 := Lib.hid hN6
  clear hb6 hN6
  go_wp2_with fail
  refine (eqInt64S_row _ _ _ _ xx1 xy1 _ _ ps1 hl2_1 _ Nx1_6.out.row Ny1_6.out.row (by omega) (by omega)).mono ?_
  rintro e w7 ⟨rfl, hb7⟩
  clear Ny1_6
  have hz7 := hb7.size
  have R1_7 := Lib.hid (R1_6.out.below hb7 (by omega))
  have Nw_7 := Lib.hid (Nw_6.out.below hb7 (by omega))
  have Nx1_7 := Lib.hid (Nx1_6.out.below hb7 (by omega))
  have Ng_7 := Lib.hid (Ng_6.out.below hb7 (by omega))
  have B7 := Lib.hid (B6.out.trans (hb7.mono (by omega)))
  clear hb7
  go_wp2_with fail
  refine (markInt64S_row (w2.heap.size) (w3.heap.size) xx1 _ ps1 (1) (by omega) (by omega) _ Nx1_7.out).mono ?_
  rintro e w8 ⟨rr1, rfl, hG, hrr, hN8⟩
  have hO8 := Outside.of_grown hG (fun g h => ⟨(hrr g h).1, (hrr g h).2.1⟩)
  clear Nx1_7
  have hz8 := hO8.size
  have R1_8 := Lib.hid (R1_7.out.outside hO8 (by omega) (by omega))
  have Nw_8 := Lib.hid (Nw_7.out.outside hO8 (by omega))
  have Ng_8 := Lib.hid (Ng_7.out.outside hO8 (by omega))
  have B8 := Lib.hid (B7.out.trans (hO8.below (B := w.heap.size) (by omega) (by omega)))
  clear hO8 hN8 hG hrr
  have hk8 : (0 : Int) ≤ 1 + (ps1.length : Int) := by omega
  go_wp2_with fail
  refine (eqInt64S_row _ _ _ _ xg xw _ _ zs' hz' _ Ng_8.out.row Nw_8.out.row (by omega) (by omega)).mono ?_
  rintro e w9 ⟨rfl, hb9⟩
  have hz9 := hb9.size
  have R1_9 := Lib.hid (R1_8.out.below hb9 (by omega))
  have Nw_9 := Lib.hid (Nw_8.out.below hb9 (by omega))
  have Ng_9 := Lib.hid (Ng_8.out.below hb9 (by omega))
  have B9 := Lib.hid (B8.out.trans (hb9.mono (by omega)))
  clear hb9
  go_wp2_with fail
  refine (markInt64S_row (w3.heap.size) (w4.heap.size) xg _ zs' 1 (by omega) (by omega) _ Ng_9.out).mono ?_
  rintro e w10 ⟨rr, rfl, hG, hrr, hN10⟩
  have hO10 := Outside.of_grown hG (fun g h => ⟨(hrr g h).1, (hrr g h).2.1⟩)
  clear Ng_9
  have hz10 := hO10.size
  have R1_10 := Lib.hid (R1_9.out.outside hO10 (by omega) (by omega))
  have Nw_10 := Lib.hid (Nw_9.out.outside hO10 (by omega))
  have B10 := Lib.hid (B9.out.trans (hO10.below (B := w.heap.size) (by omega) (by omega)))
  have M_10 := Lib.hid hN10
  clear hO10 hN10 hG hrr
  have hm10 : (0 : Int) ≤ 1 + (zs'.length : Int) := by omega
  go_wp2_with fail
  refine (heldInt64S_row (w3.heap.size) (w4.heap.size) xg _ zs' 1 (by omega) (by omega) _ M_10.out).mono ?_
  rintro e w11 ⟨rfl, hb11⟩
  have hz11 := hb11.size
  have R1_11 := Lib.hid (R1_10.out.below hb11 (by omega))
  have Nw_11 := Lib.hid (Nw_10.out.below hb11 (by omega))
  have M_11 := Lib.hid (M_10.out.below hb11 (by omega))
  have B11 := Lib.hid (B10.out.trans (hb11.mono (by omega)))
  clear hb11
  go_wp2_with fail
  refine (toInt64S_new 0 w.heap.size a1 cap1 ps1 hl2_1 _ R1_11.out (by omega)).mono ?_
  rintro e w12 ⟨xz1, rfl, hb12, hN12⟩
  have hz12 := hb12.size
  have R1_12 := Lib.hid (R1_11.out.below hb12 (by omega))
  have Nw_12 := Lib.hid (Nw_11.out.below hb12 (by omega))
  have M_12 := Lib.hid (M_11.out.below hb12 (by omega))
  have B12 := Lib.hid (B11.out.trans (hb12.mono (by omega)))
  have Nz1_12 := Lib.hid hN12
  clear hb12 hN12
  go_wp2_with fail
  refine (HIm.out _ _ _ hl2_1 (Nz1_12.out.row.mono (by omega) (by omega))).mono ?_
  rintro e w13 ⟨xh, ch, rfl, hb13, hN13⟩
  have hz13 := hb13.size
  have R1_13 := Lib.hid (R1_12.out.below hb13 (by omega))
  have Nw_13 := Lib.hid (Nw_12.out.below hb13 (by omega))
  have M_13 := Lib.hid (M_12.out.below hb13 (by omega))
  have Nz1_13 := Lib.hid (Nz1_12.out.below hb13 (by omega))
  have B13 := Lib.hid (B12.out.trans (hb13.mono (by omega)))
  have Nh_13 := Lib.hid hN13
  clear hb13 hN13
  clear Nz1_13
  clear HIm
  go_wp2_with fail
  refine (eqInt64S_row _ _ _ _ xh xw _ _ zs' hz' _ Nh_13.out.row Nw_13.out.row (by omega) (by omega)).mono ?_
  rintro e w14 ⟨rfl, hb14⟩
  have hz14 := hb14.size
  have R1_14 := Lib.hid (R1_13.out.below hb14 (by omega))
  have Nw_14 := Lib.hid (Nw_13.out.below hb14 (by omega))
  have M_14 := Lib.hid (M_13.out.below hb14 (by omega))
  have Nh_14 := Lib.hid (Nh_13.out.below hb14 (by omega))
  have B14 := Lib.hid (B13.out.trans (hb14.mono (by omega)))
  clear hb14
  go_wp2_with fail
  refine (heldInt64S_row (w3.heap.size) (w4.heap.size) xg _ zs' 1 (by omega) (by omega) _ M_14.out).mono ?_
  rintro e w15 ⟨rfl, hb15⟩
  have hz15 := hb15.size
  have R1_15 := Lib.hid (R1_14.out.below hb15 (by omega))
  have Nw_15 := Lib.hid (Nw_14.out.below hb15 (by omega))
  have M_15 := Lib.hid (M_14.out.below hb15 (by omega))
  have Nh_15 := Lib.hid (Nh_14.out.below hb15 (by omega))
  have B15 := Lib.hid (B14.out.trans (hb15.mono (by omega)))
  clear hb15
  go_wp2
  go_ret
  exact ⟨rfl, B15.out⟩
end Go.Proofs.Ytnhiceopgjfaaaa
