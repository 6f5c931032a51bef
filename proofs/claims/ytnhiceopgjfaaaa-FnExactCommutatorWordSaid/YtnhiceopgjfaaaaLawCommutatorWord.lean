/-
  'FnExactCommutatorWord' returns true at every input for which the two functions' contracts stand: the program's CommutatorWord and its model's return the same numbers and code, in memory of their own.
-/
import Derived.Test.YtnhiceopgjfaaaaIntC
namespace Go.Proofs.Ytnhiceopgjfaaaa
open Go.RowKit

set_option maxRecDepth 100000 in
set_option maxHeartbeats 8000000 in
theorem law_CommutatorWord (n0 : Int) (a1 : Option Addr) (cap1 : Nat) (ps1 : List Int) (_hl1 : ps1.length ≤ maxLen) (a2 : Option Addr) (cap2 : Nat) (ps2 : List Int) (_hl2 : ps2.length ≤ maxLen) (w : World) (hr1 : IRow 0 w.heap.size w a1 ps1) (hr2 : IRow 0 w.heap.size w a2 ps2) (zs' : List Int) (c' : Int) (hz' : zs'.length ≤ 1048576)
    (hS : ∀ (W : World) (b1 : Option Addr) (k1 : Nat) (b2 : Option Addr) (k2 : Nat), ps1.length ≤ 1048576 → ps2.length ≤ 1048576 → IRow 0 W.heap.size W b1 ps1 → IRow 0 W.heap.size W b2 ps2 → Calls Try.prog 25 #[.int .i64 n0, .slice b1 ps1.length k1, .slice b2 ps2.length k2] W (NumsPost zs' c' W))
    (hI : ∀ (W : World) (b1 : Option Addr) (k1 : Nat) (b2 : Option Addr) (k2 : Nat), ps1.length ≤ 1048576 → ps2.length ≤ 1048576 → IRow 0 W.heap.size W b1 ps1 → IRow 0 W.heap.size W b2 ps2 → Calls Try.prog 26 #[.int .i64 n0, .slice b1 ps1.length k1, .slice b2 ps2.length k2] W (NumsPost zs' c' W))
    : Calls Try.prog 7 #[.int .i64 n0, .slice a1 ps1.length cap1, .slice a2 ps2.length cap2] w fun e w' => e = .returned (.bool true) ∧ Below w.heap.size w w' := by
  have HSp := Lib.hid hS
  have HIm := Lib.hid hI
  have R1_0 := Lib.hid hr1
  have R2_0 := Lib.hid hr2
  clear hS hI hr1 hr2
  by_cases hbig1 : (1048576 : Int) < (ps1.length : Int)
  · go_enter Try.func7, Try.ntmps7
    go_wp2
    go_ret
    exact ⟨rfl, Below.refl _ _⟩
  have hl2_1 : ps1.length ≤ 1048576 := by omega
  by_cases hbig2 : (1048576 : Int) < (ps2.length : Int)
  · go_enter Try.func7, Try.ntmps7
    go_wp2
    go_ret
    exact ⟨rfl, Below.refl _ _⟩
  have hl2_2 : ps2.length ≤ 1048576 := by omega
  go_enter Try.func7, Try.ntmps7
  go_wp2_with fail
  refine (toInt64S_new 0 w.heap.size a1 cap1 ps1 hl2_1 _ R1_0.out (by omega)).mono ?_
  rintro e w1 ⟨xs1, rfl, hb1, hN1⟩
  have hz1 := hb1.size
  have R1_1 := Lib.hid (R1_0.out.below hb1 (by omega))
  have R2_1 := Lib.hid (R2_0.out.below hb1 (by omega))
  have B1 := Lib.hid ((hb1))
  have Ns1_1 := Lib.hid hN1
  clear hb1 hN1
  go_wp2_with fail
  refine (toInt64S_new 0 w.heap.size a2 cap2 ps2 hl2_2 _ R2_1.out (by omega)).mono ?_
  rintro e w2 ⟨xs2, rfl, hb2, hN2⟩
  have hz2 := hb2.size
  have R1_2 := Lib.hid (R1_1.out.below hb2 (by omega))
  have R2_2 := Lib.hid (R2_1.out.below hb2 (by omega))
  have Ns1_2 := Lib.hid (Ns1_1.out.below hb2 (by omega))
  have B2 := Lib.hid (B1.out.trans (hb2.mono (by omega)))
  have Ns2_2 := Lib.hid hN2
  clear hb2 hN2
  go_wp2_with fail
  refine (HSp.out _ _ _ _ _ hl2_1 hl2_2 (Ns1_2.out.row.mono (by omega) (by omega)) (Ns2_2.out.row.mono (by omega) (by omega))).mono ?_
  rintro e w3 ⟨xw, cw, rfl, hb3, hN3⟩
  have hz3 := hb3.size
  have R1_3 := Lib.hid (R1_2.out.below hb3 (by omega))
  have R2_3 := Lib.hid (R2_2.out.below hb3 (by omega))
  have Ns1_3 := Lib.hid (Ns1_2.out.below hb3 (by omega))
  have Ns2_3 := Lib.hid (Ns2_2.out.below hb3 (by omega))
  have B3 := Lib.hid (B2.out.trans (hb3.mono (by omega)))
  have Nw_3 := Lib.hid hN3
  clear hb3 hN3
  clear Ns1_3
  clear Ns2_3
  clear HSp
  go_wp2_with fail
  refine (toInt64S_new 0 w.heap.size a1 cap1 ps1 hl2_1 _ R1_3.out (by omega)).mono ?_
  rintro e w4 ⟨xx1, rfl, hb4, hN4⟩
  have hz4 := hb4.size
  have R1_4 := Lib.hid (R1_3.out.below hb4 (by omega))
  have R2_4 := Lib.hid (R2_3.out.below hb4 (by omega))
  have Nw_4 := Lib.hid (Nw_3.out.below hb4 (by omega))
  have B4 := Lib.hid (B3.out.trans (hb4.mono (by omega)))
  have Nx1_4 := Lib.hid hN4
  clear hb4 hN4
  go_wp2_with fail
  refine (toInt64S_new 0 w.heap.size a2 cap2 ps2 hl2_2 _ R2_4.out (by omega)).mono ?_
  rintro e w5 ⟨xx2, rfl, hb5, hN5⟩
  have hz5 := hb5.size
  have R1_5 := Lib.hid (R1_4.out.below hb5 (by omega))
  have R2_5 := Lib.hid (R2_4.out.below hb5 (by omega))
  have Nw_5 := Lib.hid (Nw_4.out.below hb5 (by omega))
  have Nx1_5 := Lib.hid (Nx1_4.out.below hb5 (by omega))
  have B5 := Lib.hid (B4.out.trans (hb5.mono (by omega)))
  have Nx2_5 := Lib.hid hN5
  clear hb5 hN5
  go_wp2_with fail
  refine (HIm.out _ _ _ _ _ hl2_1 hl2_2 (Nx1_5.out.row.mono (by omega) (by omega)) (Nx2_5.out.row.mono (by omega) (by omega))).mono ?_
  rintro e w6 ⟨xg, cg, rfl, hb6, hN6⟩
  have hz6 := hb6.size
  have R1_6 := Lib.hid (R1_5.out.below hb6 (by omega))
  have R2_6 := Lib.hid (R2_5.out.below hb6 (by omega))
  have Nw_6 := Lib.hid (Nw_5.out.below hb6 (by omega))
  have Nx1_6 := Lib.hid (Nx1_5.out.below hb6 (by omega))
  have Nx2_6 := Lib.hid (Nx2_5.out.below hb6 (by omega))
  have B6 := Lib.hid (B5.out.trans (hb6.mono (by omega)))
  have Ng_6 := Lib.hid hN6
  clear hb6 hN6
  go_wp2_with fail
  refine (eqInt64S_row _ _ _ _ xg xw _ _ zs' hz' _ Ng_6.out.row Nw_6.out.row (by omega) (by omega)).mono ?_
  rintro e w7 ⟨rfl, hb7⟩
  have hz7 := hb7.size
  have R1_7 := Lib.hid (R1_6.out.below hb7 (by omega))
  have R2_7 := Lib.hid (R2_6.out.below hb7 (by omega))
  have Nw_7 := Lib.hid (Nw_6.out.below hb7 (by omega))
  have Nx1_7 := Lib.hid (Nx1_6.out.below hb7 (by omega))
  have Nx2_7 := Lib.hid (Nx2_6.out.below hb7 (by omega))
  have Ng_7 := Lib.hid (Ng_6.out.below hb7 (by omega))
  have B7 := Lib.hid (B6.out.trans (hb7.mono (by omega)))
  clear hb7
  go_wp2_with fail
  refine (toInt64S_new 0 w.heap.size a1 cap1 ps1 hl2_1 _ R1_7.out (by omega)).mono ?_
  rintro e w8 ⟨xy1, rfl, hb8, hN8⟩
  have hz8 := hb8.size
  have R1_8 := Lib.hid (R1_7.out.below hb8 (by omega))
  have R2_8 := Lib.hid (R2_7.out.below hb8 (by omega))
  have Nw_8 := Lib.hid (Nw_7.out.below hb8 (by omega))
  have Nx1_8 := Lib.hid (Nx1_7.out.below hb8 (by omega))
  have Nx2_8 := Lib.hid (Nx2_7.out.below hb8 (by omega))
  have Ng_8 := Lib.hid (Ng_7.out.below hb8 (by omega))
  have B8 := Lib.hid (B7.out.trans (hb8.mono (by omega)))
  have Ny1_8 := Lib.hid hN8
  clear hb8 hN8
  go_wp2_with fail
  refine (eqInt64S_row _ _ _ _ xx1 xy1 _ _ ps1 hl2_1 _ Nx1_8.out.row Ny1_8.out.row (by omega) (by omega)).mono ?_
  rintro e w9 ⟨rfl, hb9⟩
  clear Ny1_8
  have hz9 := hb9.size
  have R1_9 := Lib.hid (R1_8.out.below hb9 (by omega))
  have R2_9 := Lib.hid (R2_8.out.below hb9 (by omega))
  have Nw_9 := Lib.hid (Nw_8.out.below hb9 (by omega))
  have Nx1_9 := Lib.hid (Nx1_8.out.below hb9 (by omega))
  have Nx2_9 := Lib.hid (Nx2_8.out.below hb9 (by omega))
  have Ng_9 := Lib.hid (Ng_8.out.below hb9 (by omega))
  have B9 := Lib.hid (B8.out.trans (hb9.mono (by omega)))
  clear hb9
  go_wp2_with fail
  refine (toInt64S_new 0 w.heap.size a2 cap2 ps2 hl2_2 _ R2_9.out (by omega)).mono ?_
  rintro e w10 ⟨xy2, rfl, hb10, hN10⟩
  have hz10 := hb10.size
  have R1_10 := Lib.hid (R1_9.out.below hb10 (by omega))
  have R2_10 := Lib.hid (R2_9.out.below hb10 (by omega))
  have Nw_10 := Lib.hid (Nw_9.out.below hb10 (by omega))
  have Nx1_10 := Lib.hid (Nx1_9.out.below hb10 (by omega))
  have Nx2_10 := Lib.hid (Nx2_9.out.below hb10 (by omega))
  have Ng_10 := Lib.hid (Ng_9.out.below hb10 (by omega))
  have B10 := Lib.hid (B9.out.trans (hb10.mono (by omega)))
  have Ny2_10 := Lib.hid hN10
  clear hb10 hN10
  go_wp2_with fail
  refine (eqInt64S_row _ _ _ _ xx2 xy2 _ _ ps2 hl2_2 _ Nx2_10.out.row Ny2_10.out.row (by omega) (by omega)).mono ?_
  rintro e w11 ⟨rfl, hb11⟩
  clear Ny2_10
  have hz11 := hb11.size
  have R1_11 := Lib.hid (R1_10.out.below hb11 (by omega))
  have R2_11 := Lib.hid (R2_10.out.below hb11 (by omega))
  have Nw_11 := Lib.hid (Nw_10.out.below hb11 (by omega))
  have Nx1_11 := Lib.hid (Nx1_10.out.below hb11 (by omega))
  have Nx2_11 := Lib.hid (Nx2_10.out.below hb11 (by omega))
  have Ng_11 := Lib.hid (Ng_10.out.below hb11 (by omega))
  have B11 := Lib.hid (B10.out.trans (hb11.mono (by omega)))
  clear hb11
  go_wp2_with fail
  refine (markInt64S_row (w3.heap.size) (w4.heap.size) xx1 _ ps1 (1) (by omega) (by omega) _ Nx1_11.out).mono ?_
  rintro e w12 ⟨rr1, rfl, hG, hrr, hN12⟩
  have hO12 := Outside.of_grown hG (fun g h => ⟨(hrr g h).1, (hrr g h).2.1⟩)
  clear Nx1_11
  have hz12 := hO12.size
  have R1_12 := Lib.hid (R1_11.out.outside hO12 (by omega) (by omega))
  have R2_12 := Lib.hid (R2_11.out.outside hO12 (by omega) (by omega))
  have Nw_12 := Lib.hid (Nw_11.out.outside hO12 (by omega))
  have Nx2_12 := Lib.hid (Nx2_11.out.outside hO12 (by omega))
  have Ng_12 := Lib.hid (Ng_11.out.outside hO12 (by omega))
  have B12 := Lib.hid (B11.out.trans (hO12.below (B := w.heap.size) (by omega) (by omega)))
  clear hO12 hN12 hG hrr
  have hk12 : (0 : Int) ≤ 1 + (ps1.length : Int) := by omega
  go_wp2_with fail
  refine (markInt64S_row (w4.heap.size) (w5.heap.size) xx2 _ ps2 (1 + (ps1.length : Int)) (by omega) (by omega) _ Nx2_12.out).mono ?_
  rintro e w13 ⟨rr2, rfl, hG, hrr, hN13⟩
  have hO13 := Outside.of_grown hG (fun g h => ⟨(hrr g h).1, (hrr g h).2.1⟩)
  clear Nx2_12
  have hz13 := hO13.size
  have R1_13 := Lib.hid (R1_12.out.outside hO13 (by omega) (by omega))
  have R2_13 := Lib.hid (R2_12.out.outside hO13 (by omega) (by omega))
  have Nw_13 := Lib.hid (Nw_12.out.outside hO13 (by omega))
  have Ng_13 := Lib.hid (Ng_12.out.outside hO13 (by omega))
  have B13 := Lib.hid (B12.out.trans (hO13.below (B := w.heap.size) (by omega) (by omega)))
  clear hO13 hN13 hG hrr
  have hk13 : (0 : Int) ≤ 1 + (ps1.length : Int) + (ps2.length : Int) := by omega
  go_wp2_with fail
  refine (eqInt64S_row _ _ _ _ xg xw _ _ zs' hz' _ Ng_13.out.row Nw_13.out.row (by omega) (by omega)).mono ?_
  rintro e w14 ⟨rfl, hb14⟩
  have hz14 := hb14.size
  have R1_14 := Lib.hid (R1_13.out.below hb14 (by omega))
  have R2_14 := Lib.hid (R2_13.out.below hb14 (by omega))
  have Nw_14 := Lib.hid (Nw_13.out.below hb14 (by omega))
  have Ng_14 := Lib.hid (Ng_13.out.below hb14 (by omega))
  have B14 := Lib.hid (B13.out.trans (hb14.mono (by omega)))
  clear hb14
  go_wp2_with fail
  refine (markInt64S_row (w5.heap.size) (w6.heap.size) xg _ zs' 1 (by omega) (by omega) _ Ng_14.out).mono ?_
  rintro e w15 ⟨rr, rfl, hG, hrr, hN15⟩
  have hO15 := Outside.of_grown hG (fun g h => ⟨(hrr g h).1, (hrr g h).2.1⟩)
  clear Ng_14
  have hz15 := hO15.size
  have R1_15 := Lib.hid (R1_14.out.outside hO15 (by omega) (by omega))
  have R2_15 := Lib.hid (R2_14.out.outside hO15 (by omega) (by omega))
  have Nw_15 := Lib.hid (Nw_14.out.outside hO15 (by omega))
  have B15 := Lib.hid (B14.out.trans (hO15.below (B := w.heap.size) (by omega) (by omega)))
  have M_15 := Lib.hid hN15
  clear hO15 hN15 hG hrr
  have hm15 : (0 : Int) ≤ 1 + (zs'.length : Int) := by omega
  go_wp2_with fail
  refine (heldInt64S_row (w5.heap.size) (w6.heap.size) xg _ zs' 1 (by omega) (by omega) _ M_15.out).mono ?_
  rintro e w16 ⟨rfl, hb16⟩
  have hz16 := hb16.size
  have R1_16 := Lib.hid (R1_15.out.below hb16 (by omega))
  have R2_16 := Lib.hid (R2_15.out.below hb16 (by omega))
  have Nw_16 := Lib.hid (Nw_15.out.below hb16 (by omega))
  have M_16 := Lib.hid (M_15.out.below hb16 (by omega))
  have B16 := Lib.hid (B15.out.trans (hb16.mono (by omega)))
  clear hb16
  go_wp2_with fail
  refine (toInt64S_new 0 w.heap.size a1 cap1 ps1 hl2_1 _ R1_16.out (by omega)).mono ?_
  rintro e w17 ⟨xz1, rfl, hb17, hN17⟩
  have hz17 := hb17.size
  have R1_17 := Lib.hid (R1_16.out.below hb17 (by omega))
  have R2_17 := Lib.hid (R2_16.out.below hb17 (by omega))
  have Nw_17 := Lib.hid (Nw_16.out.below hb17 (by omega))
  have M_17 := Lib.hid (M_16.out.below hb17 (by omega))
  have B17 := Lib.hid (B16.out.trans (hb17.mono (by omega)))
  have Nz1_17 := Lib.hid hN17
  clear hb17 hN17
  go_wp2_with fail
  refine (toInt64S_new 0 w.heap.size a2 cap2 ps2 hl2_2 _ R2_17.out (by omega)).mono ?_
  rintro e w18 ⟨xz2, rfl, hb18, hN18⟩
  have hz18 := hb18.size
  have R1_18 := Lib.hid (R1_17.out.below hb18 (by omega))
  have R2_18 := Lib.hid (R2_17.out.below hb18 (by omega))
  have Nw_18 := Lib.hid (Nw_17.out.below hb18 (by omega))
  have M_18 := Lib.hid (M_17.out.below hb18 (by omega))
  have Nz1_18 := Lib.hid (Nz1_17.out.below hb18 (by omega))
  have B18 := Lib.hid (B17.out.trans (hb18.mono (by omega)))
  have Nz2_18 := Lib.hid hN18
  clear hb18 hN18
  go_wp2_with fail
  refine (HIm.out _ _ _ _ _ hl2_1 hl2_2 (Nz1_18.out.row.mono (by omega) (by omega)) (Nz2_18.out.row.mono (by omega) (by omega))).mono ?_
  rintro e w19 ⟨xh, ch, rfl, hb19, hN19⟩
  have hz19 := hb19.size
  have R1_19 := Lib.hid (R1_18.out.below hb19 (by omega))
  have R2_19 := Lib.hid (R2_18.out.below hb19 (by omega))
  have Nw_19 := Lib.hid (Nw_18.out.below hb19 (by omega))
  have M_19 := Lib.hid (M_18.out.below hb19 (by omega))
  have Nz1_19 := Lib.hid (Nz1_18.out.below hb19 (by omega))
  have Nz2_19 := Lib.hid (Nz2_18.out.below hb19 (by omega))
  have B19 := Lib.hid (B18.out.trans (hb19.mono (by omega)))
  have Nh_19 := Lib.hid hN19
  clear hb19 hN19
  clear Nz1_19
  clear Nz2_19
  clear HIm
  go_wp2_with fail
  refine (eqInt64S_row _ _ _ _ xh xw _ _ zs' hz' _ Nh_19.out.row Nw_19.out.row (by omega) (by omega)).mono ?_
  rintro e w20 ⟨rfl, hb20⟩
  have hz20 := hb20.size
  have R1_20 := Lib.hid (R1_19.out.below hb20 (by omega))
  have R2_20 := Lib.hid (R2_19.out.below hb20 (by omega))
  have Nw_20 := Lib.hid (Nw_19.out.below hb20 (by omega))
  have M_20 := Lib.hid (M_19.out.below hb20 (by omega))
  have Nh_20 := Lib.hid (Nh_19.out.below hb20 (by omega))
  have B20 := Lib.hid (B19.out.trans (hb20.mono (by omega)))
  clear hb20
  go_wp2_with fail
  refine (heldInt64S_row (w5.heap.size) (w6.heap.size) xg _ zs' 1 (by omega) (by omega) _ M_20.out).mono ?_
  rintro e w21 ⟨rfl, hb21⟩
  have hz21 := hb21.size
  have R1_21 := Lib.hid (R1_20.out.below hb21 (by omega))
  have R2_21 := Lib.hid (R2_20.out.below hb21 (by omega))
  have Nw_21 := Lib.hid (Nw_20.out.below hb21 (by omega))
  have M_21 := Lib.hid (M_20.out.below hb21 (by omega))
  have Nh_21 := Lib.hid (Nh_20.out.below hb21 (by omega))
  have B21 := Lib.hid (B20.out.trans (hb21.mono (by omega)))
  clear hb21
  go_wp2
  go_ret
  exact ⟨rfl, B21.out⟩
end Go.Proofs.Ytnhiceopgjfaaaa
