/-
  'FnExactMultiplyCoordinates' returns true at every input for which the two functions' contracts stand: the program's MultiplyCoordinates and its model's return the same terms and code, in memory of its own, and each list reads as before.
  'FnExactMultiplyCoordinates' returns true at every input: the program's MultiplyCoordinates and its model's return the same terms and code, in memory of its own, and both lists read as before. No condition.
-/
import Derived.Test.YtgcjpenlcokgjaaGreatDoorTmR
import Derived.Test.YtgcjpenlcokgjaaGreatDoorMulC
import Derived.Test.YtgcjpenlcokgjaaGreatDoorOpenR
import Derived.Test.YtgcjpenlcokgjaaGreatDoorDoor
namespace Go.Proofs.YtgcjpenlcokgjaaGreatDoor
open Go.RowKit

set_option maxRecDepth 100000 in
set_option maxHeartbeats 8000000 in
theorem law_MultiplyCoordinates (n0 : Int) (n1 : Int) (a2 : Option Addr) (cap2 : Nat) (xs2 : List Tm) (hl2 : xs2.length ≤ maxLen) (hs2 : ∀ i (h : i < xs2.length), (xs2[i]).s.size ≤ maxLen) (a3 : Option Addr) (cap3 : Nat) (xs3 : List Tm) (hl3 : xs3.length ≤ maxLen) (hs3 : ∀ i (h : i < xs3.length), (xs3[i]).s.size ≤ maxLen) (w : World) (hr2 : Row w a2 xs2) (hr3 : Row w a3 xs3) (c' : Int) (ts' : List Tm) (hl' : ts'.length ≤ 1048576)
    (hS : ∀ (W : World) (g2 : Nat) (g3 : Nat), xs2.length ≤ 1048576 → xs3.length ≤ 1048576 → g2 < W.heap.size → TermsIn W g2 0 xs2 → g3 < W.heap.size → TermsIn W g3 0 xs3 → Calls Tryz.prog 30 #[.int .i64 n0, .int .i64 n1, .slice (some ⟨g2, 0, none⟩) xs2.length xs2.length, .slice (some ⟨g3, 0, none⟩) xs3.length xs3.length] W (TermsPost ts' c' W))
    (hI : ∀ (W : World) (g2 : Nat) (g3 : Nat), xs2.length ≤ 1048576 → xs3.length ≤ 1048576 → g2 < W.heap.size → TermsIn W g2 0 xs2 → g3 < W.heap.size → TermsIn W g3 0 xs3 → Calls Tryz.prog 31 #[.int .i64 n0, .int .i64 n1, .slice (some ⟨g2, 0, none⟩) xs2.length xs2.length, .slice (some ⟨g3, 0, none⟩) xs3.length xs3.length] W (TermsPost ts' c' W))
    : Calls Tryz.prog 7 #[.int .i64 n0, .int .i64 n1, .slice a2 xs2.length cap2, .slice a3 xs3.length cap3] w fun e w' => e = .returned (.bool true) ∧ Below w.heap.size w w' := by
  have HSp := Lib.hid hS
  have HIm := Lib.hid hI
  have R2_0 := Lib.hid (RowB.of_row hr2)
  have HZ2 := Lib.hid hs2
  have R3_0 := Lib.hid (RowB.of_row hr3)
  have HZ3 := Lib.hid hs3
  clear hS hI hr2 hs2 hr3 hs3
  go_enter Tryz.func7, Tryz.ntmps7
  go_wp2_with fail
  refine (szTermS_row a2 cap2 xs2 hl2 HZ2.out 1048576 (by omega) _ (R2_0.out.row (by omega))).mono ?_
  rintro e w1 ⟨hsz2, hb1⟩
  have hz1 := hb1.size
  have R2_1 := Lib.hid (R2_0.out.below hb1 (by omega))
  have R3_1 := Lib.hid (R3_0.out.below hb1 (by omega))
  have BW1 := Lib.hid ((hb1))
  clear hb1
  rcases hsz2 with rfl | ⟨r2, hr2a, hr2b, hfit2, rfl⟩
  · go_wp2
    go_ret
    exact ⟨rfl, BW1.out⟩
  have hl2_2 : xs2.length ≤ 1048576 := by omega
  go_wp2_with fail
  refine (szTermS_row a3 cap3 xs3 hl3 HZ3.out r2 (by omega) _ (R3_1.out.row (by omega))).mono ?_
  rintro e w2 ⟨hsz3, hb2⟩
  have hz2 := hb2.size
  have R2_2 := Lib.hid (R2_1.out.below hb2 (by omega))
  have R3_2 := Lib.hid (R3_1.out.below hb2 (by omega))
  have BW2 := Lib.hid (BW1.out.trans (hb2.mono (by omega)))
  clear hb2
  rcases hsz3 with rfl | ⟨r3, hr3a, hr3b, hfit3, rfl⟩
  · go_wp2
    go_ret
    exact ⟨rfl, BW2.out⟩
  have hl2_3 : xs3.length ≤ 1048576 := by omega
  go_wp2_with fail
  refine (toTermS_g a2 cap2 xs2 hl2_2 _ (R2_2.out.row (by omega))).mono ?_
  rintro e w3 ⟨gs2, rfl, hb3, hN3⟩
  have hz3 := hb3.size
  have R2_3 := Lib.hid (R2_2.out.below hb3 (by omega))
  have R3_3 := Lib.hid (R3_2.out.below hb3 (by omega))
  have BW3 := Lib.hid (BW2.out.trans (hb3.mono (by omega)))
  have Gs2_3 := Lib.hid hN3
  clear hb3 hN3
  go_wp2_with fail
  refine (toTermS_g a3 cap3 xs3 hl2_3 _ (R3_3.out.row (by omega))).mono ?_
  rintro e w4 ⟨gs3, rfl, hb4, hN4⟩
  have hz4 := hb4.size
  have R2_4 := Lib.hid (R2_3.out.below hb4 (by omega))
  have R3_4 := Lib.hid (R3_3.out.below hb4 (by omega))
  have Gs2_4 := Lib.hid (Gs2_3.out.below hb4 (by omega))
  have BW4 := Lib.hid (BW3.out.trans (hb4.mono (by omega)))
  have Gs3_4 := Lib.hid hN4
  clear hb4 hN4
  go_wp2_with fail
  refine (HSp.out _ _ _ hl2_2 hl2_3 Gs2_4.out.lt Gs2_4.out.2.2.2 Gs3_4.out.lt Gs3_4.out.2.2.2).mono ?_
  rintro e w5 ⟨xw, cw, rfl, hb5, hN5⟩
  have hz5 := hb5.size
  have R2_5 := Lib.hid (R2_4.out.below hb5 (by omega))
  have R3_5 := Lib.hid (R3_4.out.below hb5 (by omega))
  have Gs2_5 := Lib.hid (Gs2_4.out.below hb5 (by omega))
  have Gs3_5 := Lib.hid (Gs3_4.out.below hb5 (by omega))
  have BW5 := Lib.hid (BW4.out.trans (hb5.mono (by omega)))
  have Nw_5 := Lib.hid hN5
  clear hb5 hN5
  clear Gs2_5
  clear Gs3_5
  clear HSp
  go_wp2_with fail
  refine (toTermS_g a2 cap2 xs2 hl2_2 _ (R2_5.out.row (by omega))).mono ?_
  rintro e w6 ⟨gx2, rfl, hb6, hN6⟩
  have hz6 := hb6.size
  have R2_6 := Lib.hid (R2_5.out.below hb6 (by omega))
  have R3_6 := Lib.hid (R3_5.out.below hb6 (by omega))
  have Nw_6 := Lib.hid (Nw_5.out.below hb6 (by omega))
  have BW6 := Lib.hid (BW5.out.trans (hb6.mono (by omega)))
  have Gx2_6 := Lib.hid hN6
  clear hb6 hN6
  go_wp2_with fail
  refine (toTermS_g a3 cap3 xs3 hl2_3 _ (R3_6.out.row (by omega))).mono ?_
  rintro e w7 ⟨gx3, rfl, hb7, hN7⟩
  have hz7 := hb7.size
  have R2_7 := Lib.hid (R2_6.out.below hb7 (by omega))
  have R3_7 := Lib.hid (R3_6.out.below hb7 (by omega))
  have Nw_7 := Lib.hid (Nw_6.out.below hb7 (by omega))
  have Gx2_7 := Lib.hid (Gx2_6.out.below hb7 (by omega))
  have BW7 := Lib.hid (BW6.out.trans (hb7.mono (by omega)))
  have Gx3_7 := Lib.hid hN7
  clear hb7 hN7
  go_wp2_with fail
  refine (HIm.out _ _ _ hl2_2 hl2_3 Gx2_7.out.lt Gx2_7.out.2.2.2 Gx3_7.out.lt Gx3_7.out.2.2.2).mono ?_
  rintro e w8 ⟨xg, cg, rfl, hb8, hN8⟩
  have hz8 := hb8.size
  have R2_8 := Lib.hid (R2_7.out.below hb8 (by omega))
  have R3_8 := Lib.hid (R3_7.out.below hb8 (by omega))
  have Nw_8 := Lib.hid (Nw_7.out.below hb8 (by omega))
  have Gx2_8 := Lib.hid (Gx2_7.out.below hb8 (by omega))
  have Gx3_8 := Lib.hid (Gx3_7.out.below hb8 (by omega))
  have BW8 := Lib.hid (BW7.out.trans (hb8.mono (by omega)))
  have Ng_8 := Lib.hid hN8
  clear hb8 hN8
  go_wp2_with fail
  refine (eqTermS_row xg xw _ _ ts' hl' _ Ng_8.out.row Nw_8.out.row).mono ?_
  rintro e w9 ⟨rfl, hb9⟩
  have hz9 := hb9.size
  have R2_9 := Lib.hid (R2_8.out.below hb9 (by omega))
  have R3_9 := Lib.hid (R3_8.out.below hb9 (by omega))
  have Nw_9 := Lib.hid (Nw_8.out.below hb9 (by omega))
  have Gx2_9 := Lib.hid (Gx2_8.out.below hb9 (by omega))
  have Gx3_9 := Lib.hid (Gx3_8.out.below hb9 (by omega))
  have Ng_9 := Lib.hid (Ng_8.out.below hb9 (by omega))
  have BW9 := Lib.hid (BW8.out.trans (hb9.mono (by omega)))
  clear hb9
  go_wp2_with fail
  refine (toTermS_g a2 cap2 xs2 hl2_2 _ (R2_9.out.row (by omega))).mono ?_
  rintro e w10 ⟨gy2, rfl, hb10, hN10⟩
  have hz10 := hb10.size
  have R2_10 := Lib.hid (R2_9.out.below hb10 (by omega))
  have R3_10 := Lib.hid (R3_9.out.below hb10 (by omega))
  have Nw_10 := Lib.hid (Nw_9.out.below hb10 (by omega))
  have Gx2_10 := Lib.hid (Gx2_9.out.below hb10 (by omega))
  have Gx3_10 := Lib.hid (Gx3_9.out.below hb10 (by omega))
  have Ng_10 := Lib.hid (Ng_9.out.below hb10 (by omega))
  have BW10 := Lib.hid (BW9.out.trans (hb10.mono (by omega)))
  have Gy2_10 := Lib.hid hN10
  clear hb10 hN10
  go_wp2_with fail
  refine (eqTermS_row (some ⟨gx2, 0, none⟩) (some ⟨gy2, 0, none⟩) _ _ xs2 hl2_2 _ Gx2_10.out.row Gy2_10.out.row).mono ?_
  rintro e w11 ⟨rfl, hb11⟩
  clear Gy2_10
  have hz11 := hb11.size
  have R2_11 := Lib.hid (R2_10.out.below hb11 (by omega))
  have R3_11 := Lib.hid (R3_10.out.below hb11 (by omega))
  have Nw_11 := Lib.hid (Nw_10.out.below hb11 (by omega))
  have Gx2_11 := Lib.hid (Gx2_10.out.below hb11 (by omega))
  have Gx3_11 := Lib.hid (Gx3_10.out.below hb11 (by omega))
  have Ng_11 := Lib.hid (Ng_10.out.below hb11 (by omega))
  have BW11 := Lib.hid (BW10.out.trans (hb11.mono (by omega)))
  clear hb11
  go_wp2_with fail
  refine (toTermS_g a3 cap3 xs3 hl2_3 _ (R3_11.out.row (by omega))).mono ?_
  rintro e w12 ⟨gy3, rfl, hb12, hN12⟩
  have hz12 := hb12.size
  have R2_12 := Lib.hid (R2_11.out.below hb12 (by omega))
  have R3_12 := Lib.hid (R3_11.out.below hb12 (by omega))
  have Nw_12 := Lib.hid (Nw_11.out.below hb12 (by omega))
  have Gx2_12 := Lib.hid (Gx2_11.out.below hb12 (by omega))
  have Gx3_12 := Lib.hid (Gx3_11.out.below hb12 (by omega))
  have Ng_12 := Lib.hid (Ng_11.out.below hb12 (by omega))
  have BW12 := Lib.hid (BW11.out.trans (hb12.mono (by omega)))
  have Gy3_12 := Lib.hid hN12
  clear hb12 hN12
  go_wp2_with fail
  refine (eqTermS_row (some ⟨gx3, 0, none⟩) (some ⟨gy3, 0, none⟩) _ _ xs3 hl2_3 _ Gx3_12.out.row Gy3_12.out.row).mono ?_
  rintro e w13 ⟨rfl, hb13⟩
  clear Gy3_12
  have hz13 := hb13.size
  have R2_13 := Lib.hid (R2_12.out.below hb13 (by omega))
  have R3_13 := Lib.hid (R3_12.out.below hb13 (by omega))
  have Nw_13 := Lib.hid (Nw_12.out.below hb13 (by omega))
  have Gx2_13 := Lib.hid (Gx2_12.out.below hb13 (by omega))
  have Gx3_13 := Lib.hid (Gx3_12.out.below hb13 (by omega))
  have Ng_13 := Lib.hid (Ng_12.out.below hb13 (by omega))
  have BW13 := Lib.hid (BW12.out.trans (hb13.mono (by omega)))
  clear hb13
  go_wp2_with fail
  refine (markTermS_row _ _ (some ⟨gx2, 0, none⟩) _ xs2 (1) (by omega) (by omega) _ Gx2_13.out.new).mono ?_
  rintro e w14 ⟨rr14, rfl, hG, hrr, hN14⟩
  clear Gx2_13
  have hz14 := hG.size
  have R2_14 := Lib.hid (R2_13.out.grown hG (by omega) (fun g h => by have := hrr g h; omega))
  have R3_14 := Lib.hid (R3_13.out.grown hG (by omega) (fun g h => by have := hrr g h; omega))
  have Nw_14 := Lib.hid (Nw_13.out.grown hG (fun g h => by have := hrr g h; omega))
  have Gx3_14 := Lib.hid (Gx3_13.out.grown hG (fun g h => by have := hrr g h; omega))
  have Ng_14 := Lib.hid (Ng_13.out.grown hG (fun g h => by have := hrr g h; omega))
  have BW14 := Lib.hid (BW13.out.trans (below_of_grown hG (fun g h => by have := hrr g h; omega) (by omega)))
  clear hN14 hG hrr
  have hk14 : (0 : Int) ≤ 1 + 3 * (xs2.length : Int) := by omega
  go_wp2_with fail
  refine (markTermS_row _ _ (some ⟨gx3, 0, none⟩) _ xs3 (1 + 3 * (xs2.length : Int)) (by omega) (by omega) _ Gx3_14.out.new).mono ?_
  rintro e w15 ⟨rr15, rfl, hG, hrr, hN15⟩
  clear Gx3_14
  have hz15 := hG.size
  have R2_15 := Lib.hid (R2_14.out.grown hG (by omega) (fun g h => by have := hrr g h; omega))
  have R3_15 := Lib.hid (R3_14.out.grown hG (by omega) (fun g h => by have := hrr g h; omega))
  have Nw_15 := Lib.hid (Nw_14.out.grown hG (fun g h => by have := hrr g h; omega))
  have Ng_15 := Lib.hid (Ng_14.out.grown hG (fun g h => by have := hrr g h; omega))
  have BW15 := Lib.hid (BW14.out.trans (below_of_grown hG (fun g h => by have := hrr g h; omega) (by omega)))
  clear hN15 hG hrr
  have hk15 : (0 : Int) ≤ 1 + 3 * (xs2.length : Int) + 3 * (xs3.length : Int) := by omega
  go_wp2_with fail
  refine (eqTermS_row xg xw _ _ ts' hl' _ Ng_15.out.row Nw_15.out.row).mono ?_
  rintro e w16 ⟨rfl, hb16⟩
  have hz16 := hb16.size
  have R2_16 := Lib.hid (R2_15.out.below hb16 (by omega))
  have R3_16 := Lib.hid (R3_15.out.below hb16 (by omega))
  have Nw_16 := Lib.hid (Nw_15.out.below hb16 (by omega))
  have Ng_16 := Lib.hid (Ng_15.out.below hb16 (by omega))
  have BW16 := Lib.hid (BW15.out.trans (hb16.mono (by omega)))
  clear hb16
  go_wp2_with fail
  refine (markTermS_row (w7.heap.size) (w8.heap.size) xg _ ts' (1) (by omega) (by omega) _ Ng_16.out).mono ?_
  rintro e w17 ⟨rr17, rfl, hG, hrr, hN17⟩
  clear Ng_16
  have hz17 := hG.size
  have R2_17 := Lib.hid (R2_16.out.grown hG (by omega) (fun g h => by have := hrr g h; omega))
  have R3_17 := Lib.hid (R3_16.out.grown hG (by omega) (fun g h => by have := hrr g h; omega))
  have Nw_17 := Lib.hid (Nw_16.out.grown hG (fun g h => by have := hrr g h; omega))
  have BW17 := Lib.hid (BW16.out.trans (below_of_grown hG (fun g h => by have := hrr g h; omega) (by omega)))
  have NM_17 := Lib.hid hN17
  clear hN17 hG hrr
  have hm17 : (0 : Int) ≤ 1 + 3 * (ts'.length : Int) := by omega
  go_wp2_with fail
  refine (heldTermS_row (w7.heap.size) (w8.heap.size) xg _ ts' 1 (by omega) (by omega) _ NM_17.out).mono ?_
  rintro e w18 ⟨rfl, hb18⟩
  have hz18 := hb18.size
  have R2_18 := Lib.hid (R2_17.out.below hb18 (by omega))
  have R3_18 := Lib.hid (R3_17.out.below hb18 (by omega))
  have Nw_18 := Lib.hid (Nw_17.out.below hb18 (by omega))
  have NM_18 := Lib.hid (NM_17.out.below hb18 (by omega))
  have BW18 := Lib.hid (BW17.out.trans (hb18.mono (by omega)))
  clear hb18
  go_wp2_with fail
  refine (toTermS_g a2 cap2 xs2 hl2_2 _ (R2_18.out.row (by omega))).mono ?_
  rintro e w19 ⟨gz2, rfl, hb19, hN19⟩
  have hz19 := hb19.size
  have R2_19 := Lib.hid (R2_18.out.below hb19 (by omega))
  have R3_19 := Lib.hid (R3_18.out.below hb19 (by omega))
  have Nw_19 := Lib.hid (Nw_18.out.below hb19 (by omega))
  have NM_19 := Lib.hid (NM_18.out.below hb19 (by omega))
  have BW19 := Lib.hid (BW18.out.trans (hb19.mono (by omega)))
  have Gz2_19 := Lib.hid hN19
  clear hb19 hN19
  go_wp2_with fail
  refine (toTermS_g a3 cap3 xs3 hl2_3 _ (R3_19.out.row (by omega))).mono ?_
  rintro e w20 ⟨gz3, rfl, hb20, hN20⟩
  have hz20 := hb20.size
  have R2_20 := Lib.hid (R2_19.out.below hb20 (by omega))
  have R3_20 := Lib.hid (R3_19.out.below hb20 (by omega))
  have Nw_20 := Lib.hid (Nw_19.out.below hb20 (by omega))
  have NM_20 := Lib.hid (NM_19.out.below hb20 (by omega))
  have Gz2_20 := Lib.hid (Gz2_19.out.below hb20 (by omega))
  have BW20 := Lib.hid (BW19.out.trans (hb20.mono (by omega)))
  have Gz3_20 := Lib.hid hN20
  clear hb20 hN20
  go_wp2_with fail
  refine (HIm.out _ _ _ hl2_2 hl2_3 Gz2_20.out.lt Gz2_20.out.2.2.2 Gz3_20.out.lt Gz3_20.out.2.2.2).mono ?_
  rintro e w21 ⟨xh, ch, rfl, hb21, hN21⟩
  have hz21 := hb21.size
  have R2_21 := Lib.hid (R2_20.out.below hb21 (by omega))
  have R3_21 := Lib.hid (R3_20.out.below hb21 (by omega))
  have Nw_21 := Lib.hid (Nw_20.out.below hb21 (by omega))
  have NM_21 := Lib.hid (NM_20.out.below hb21 (by omega))
  have Gz2_21 := Lib.hid (Gz2_20.out.below hb21 (by omega))
  have Gz3_21 := Lib.hid (Gz3_20.out.below hb21 (by omega))
  have BW21 := Lib.hid (BW20.out.trans (hb21.mono (by omega)))
  have Nh_21 := Lib.hid hN21
  clear hb21 hN21
  clear Gz2_21
  clear Gz3_21
  clear HIm
  go_wp2_with fail
  refine (eqTermS_row xh xw _ _ ts' hl' _ Nh_21.out.row Nw_21.out.row).mono ?_
  rintro e w22 ⟨rfl, hb22⟩
  have hz22 := hb22.size
  have R2_22 := Lib.hid (R2_21.out.below hb22 (by omega))
  have R3_22 := Lib.hid (R3_21.out.below hb22 (by omega))
  have Nw_22 := Lib.hid (Nw_21.out.below hb22 (by omega))
  have NM_22 := Lib.hid (NM_21.out.below hb22 (by omega))
  have Nh_22 := Lib.hid (Nh_21.out.below hb22 (by omega))
  have BW22 := Lib.hid (BW21.out.trans (hb22.mono (by omega)))
  clear hb22
  go_wp2_with fail
  refine (heldTermS_row (w7.heap.size) (w8.heap.size) xg _ ts' 1 (by omega) (by omega) _ NM_22.out).mono ?_
  rintro e w23 ⟨rfl, hb23⟩
  have hz23 := hb23.size
  have R2_23 := Lib.hid (R2_22.out.below hb23 (by omega))
  have R3_23 := Lib.hid (R3_22.out.below hb23 (by omega))
  have Nw_23 := Lib.hid (Nw_22.out.below hb23 (by omega))
  have NM_23 := Lib.hid (NM_22.out.below hb23 (by omega))
  have Nh_23 := Lib.hid (Nh_22.out.below hb23 (by omega))
  have BW23 := Lib.hid (BW22.out.trans (hb23.mono (by omega)))
  clear hb23
  go_wp2
  go_ret
  exact ⟨rfl, BW23.out⟩
end Go.Proofs.YtgcjpenlcokgjaaGreatDoor

namespace Go.Proofs.YtgcjpenlcokgjaaGreatDoor
open Go.ChangeShapes Go.WideShapes Go.ChangeAt Go.RowKit

theorem lie_len3 {ws : List ByteArray} {m : Nat} {f : VF} {out z : List Tm} {c : Int} (h : LieR ws m f out c z) : z.length ≤ out.length + m := by
  induction h with
  | done => omega
  | state => simp
  | limit => simp
  | next _ _ _ _ _ _ _ _ _ _ _ _ ih => rw [List.length_append] at ih; simp only [List.length_singleton] at ih; omega
theorem mul_is {D N : Nat} (hsh : shapeB (D : Int) (N : Int) = true) (xs ys : List Tm) : ∃ c z, MulR (allW D N) xs ys N c z ∧ z.length ≤ 121 := by
  have hDN := shape_out hsh
  have hw121 := allW_121 D (by omega) (by omega) N (by omega) (by omega)
  cases hj : mulJ (allW D N) xs ys N with
  | none => exact ⟨3, [], .inl ⟨hj, rfl, rfl⟩, by simp⟩
  | some j =>
    have hgd : GoodV (allW D N) j := by
      have h := hj
      unfold mulJ at h
      obtain ⟨x, _, h⟩ := Option.bind_eq_some_iff.1 h
      obtain ⟨y, _, h⟩ := Option.bind_eq_some_iff.1 h
      exact join_good h
    obtain ⟨c, z, hz, _⟩ := lie_is (D := D) (N := N) (by omega) (by omega) (by omega) (allW D N).length 0 j [] rfl hgd (fun s hs => by
      obtain ⟨q, hq⟩ := Option.ne_none_iff_exists'.1 hs
      exact (hgd _ _ hq).1)
    have hzl := lie_len3 hz
    simp only [List.length_nil] at hzl
    exact ⟨c, z, .inr ⟨j, hj, _, hw121, hz⟩, by omega⟩
theorem main_MultiplyCoordinates (L V : Int) (a : Option Addr) (cap : Nat) (xs : List Tm) (hl : xs.length ≤ maxLen) (hs : ∀ i (h : i < xs.length), (xs[i]).s.size ≤ maxLen) (a' : Option Addr) (cap' : Nat) (ys : List Tm) (hl' : ys.length ≤ maxLen) (hs' : ∀ i (h : i < ys.length), (ys[i]).s.size ≤ maxLen) (w : World) (hr : Row w a xs) (hr' : Row w a' ys) :
    Calls Tryz.prog 7 #[.int .i64 L, .int .i64 V, .slice a xs.length cap, .slice a' ys.length cap'] w fun e w' => e = .returned (.bool true) ∧ Below w.heap.size w w' := by
  have law := law_MultiplyCoordinates L V a cap xs hl hs a' cap' ys hl' hs' w hr hr'
  cases h1 : givB L V xs with
  | false => exact law 2 [] (by simp) (fun W g g' q q' hb ht hb' ht' => sMulC_1a L V g g' xs ys q q' hs hs' h1 W hb hb' ht ht') (fun W g g' q q' hb ht hb' ht' => iMulC_1a L V g g' xs ys q q' hs hs' h1 W hb hb' ht ht')
  | true =>
    cases h2 : givB L V ys with
    | false => exact law 2 [] (by simp) (fun W g g' q q' hb ht hb' ht' => sMulC_1b L V g g' xs ys q q' hs hs' h1 h2 W hb hb' ht ht') (fun W g g' q q' hb ht hb' ht' => iMulC_1b L V g g' xs ys q q' hs hs' h1 h2 W hb hb' ht ht')
    | true =>
      have hser := (giv_true h1).1
      have hsh : shapeB L V = true := by unfold serB at hser; rw [Bool.and_eq_true] at hser; exact hser.1
      have hLV := shape_out hsh
      obtain ⟨D, rfl⟩ : ∃ D : Nat, L = D := ⟨L.toNat, by omega⟩
      obtain ⟨N, rfl⟩ : ∃ N : Nat, V = N := ⟨V.toNat, by omega⟩
      obtain ⟨c, z, hz, hzl⟩ := mul_is hsh xs ys
      exact law c z (by omega) (fun W g g' q q' hb ht hb' ht' => sMulC_2 D N g g' xs ys q q' hs hs' h1 h2 c z hz W hb hb' ht ht') (fun W g g' q q' hb ht hb' ht' => iMulC_2 D N g g' xs ys q q' hs hs' h1 h2 c z hz W hb hb' ht ht')

namespace fnExactMultiplyCoordinates
set_option maxRecDepth 100000 in
theorem lifted (os : Os) (started : os.Started) (H : Type) (enc : TypeId × Value → H) :
    ReturnsInHanded {} Tryz.checked os 7 .any (fun w args => (Rows.fnExactMultiplyCoordinatesSpec.pre enc Tryz.prog Tryz.f7 [] false w args ∧ laidMetH Tryz.prog Rows.fnExactMultiplyCoordinatesRow.laid w) ∧ sizedMet enc Tryz.prog Tryz.f7 (OpenSpec.ofChange Rows.fnExactMultiplyCoordinatesSpec) false w args)
      (Rows.fnExactMultiplyCoordinatesSpec.post enc Tryz.prog Tryz.f7 false true false false) := by
  refine returnsInHanded_of_change_and (C := Tryz.checked) (X := fun w _ => laidMetH Tryz.prog Rows.fnExactMultiplyCoordinatesRow.laid w) (fun _ _ _ hh h => h.of_heap hh) seatOwn started (by kernel_rfl) Tryz.func7
    (ChangeSpec.witness_shaped (enc := enc) (C := Tryz.checked) (os := os) (X := fun w _ => laidMetH Tryz.prog Rows.fnExactMultiplyCoordinatesRow.laid w) false (World.doorLaid Tryz.prog 400 os) #[.int .i64 0, .int .i64 0, .slice none 0 0, .slice none 0 0] 8 rfl (door_shaped os _) (by kernel_rfl) (by kernel_rfl) (by kernel_rfl) (door_met3 os _)) ?_
  intro W base args ds gs before hval0 hW _ _ _ _
  have hval : ∀ (j : Nat) t v, Tryz.f7.params[j]? = some t → args[j]? = some v → Value.okWide Tryz.prog W .any base t v := hval0
  have hW' := hW
  have hlt : ∀ x ∈ before, x.block < W.heap.size := fun x hx => hW.lt x hx
  obtain ⟨p, q, hA0, hV, rfl, _, _⟩ := hW
  have hA : DataW.TrodAll enc Tryz.prog W 0 (fun _ => true) true Tryz.f7.params.toList args.toList ds p := hA0
  rw [Tryz.params7] at hA hval
  obtain ⟨v0, vs0, d00, ds0, p0, q0, hargs, rfl, rfl, h0, r0⟩ := trodAll_cons hA
  obtain ⟨v1, vs1, d10, ds1, p1, q1, rfl, rfl, rfl, h1, r1⟩ := trodAll_cons r0
  obtain ⟨v2, vs2, d20, ds2, p2, q2, rfl, rfl, rfl, h2, r2⟩ := trodAll_cons r1
  obtain ⟨v3, vs3, d30, ds3, p3, q3, rfl, rfl, rfl, h3, r3⟩ := trodAll_cons r2
  obtain ⟨rfl, rfl, rfl⟩ := trodAll_nil r3
  obtain rfl : args = #[v0, v1, v2, v3] := by cases args; simp_all
  obtain ⟨rfl, rfl⟩ := trodVars_none hV
  obtain ⟨n0, rfl, rfl, rfl, wf0⟩ := open_int Tryz.underlying2 (hval 0 2 v0 rfl rfl) h0
  obtain ⟨n1, rfl, rfl, rfl, wf1⟩ := open_int Tryz.underlying2 (hval 1 2 v1 rfl rfl) h1
  have h2k := h2
  obtain ⟨a2, cap2, ps2, rfl, hl2, hs2, hr2⟩ := open_terms (hval 2 22 v2 rfl rfl) h2
  have h3k := h3
  obtain ⟨a3, cap3, ps3, rfl, hl3, hs3, hr3⟩ := open_terms (hval 3 22 v3 rfl rfl) h3
  clear hA0 hval0
  simp only [List.append_nil, List.nil_append] at hW' hlt
  refine (main_MultiplyCoordinates n0 n1 a2 cap2 ps2 hl2 hs2 a3 cap3 ps3 hl3 hs3 W hr2 hr3).mono fun e W' ⟨he, hg⟩ => ?_
  subst he
  have hk2 := Below.trod seatLaid (by kernel_rfl) (of_decide_eq_true (by kernel_rfl)) h2k hg (fun x hx => hlt x (by simp [hx]))
  have hk3 := Below.trod seatLaid (by kernel_rfl) (of_decide_eq_true (by kernel_rfl)) h3k hg (fun x hx => hlt x (by simp [hx]))
  exact ⟨_, rfl, shut_reads (pa := p2 ++ p3) hW' (fun _ _ _ => (trodAll_cons_mk (shut_bool Tryz.underlying4 _) trodAll_mk0)) (by have h := (trodAll_cons_mk (shut_int Tryz.underlying2 wf0) (trodAll_cons_mk (shut_int Tryz.underlying2 wf1) (trodAll_cons_mk hk2 (trodAll_cons_mk hk3 trodAll_mk0)))); simp only [List.append_nil, List.nil_append] at h; exact h) (fun _ => rfl) hg⟩
end fnExactMultiplyCoordinates
end Go.Proofs.YtgcjpenlcokgjaaGreatDoor
