/-
  'FnExactInverseCoordinates' returns true at every input for which the two functions' contracts stand: the program's InverseCoordinates and its model's return the same terms and code, in memory of its own, and each list reads as before.
-/
import Derived.Test.YtjjkkaikinjmdaaTmR
namespace Go.Proofs.Ytjjkkaikinjmdaa
open Go.RowKit

set_option maxRecDepth 100000 in
set_option maxHeartbeats 8000000 in
theorem law_InverseCoordinates (n0 : Int) (n1 : Int) (a2 : Option Addr) (cap2 : Nat) (xs2 : List Tm) (hl2 : xs2.length ≤ maxLen) (hs2 : ∀ i (h : i < xs2.length), (xs2[i]).s.size ≤ maxLen) (w : World) (hr2 : Row w a2 xs2) (c' : Int) (ts' : List Tm) (hl' : ts'.length ≤ 1048576)
    (hS : ∀ (W : World) (g2 : Nat), xs2.length ≤ 1048576 → g2 < W.heap.size → TermsIn W g2 0 xs2 → Calls Try.prog 8 #[.int .i64 n0, .int .i64 n1, .slice (some ⟨g2, 0, none⟩) xs2.length xs2.length] W (TermsPost ts' c' W))
    (hI : ∀ (W : World) (g2 : Nat), xs2.length ≤ 1048576 → g2 < W.heap.size → TermsIn W g2 0 xs2 → Calls Try.prog 10 #[.int .i64 n0, .int .i64 n1, .slice (some ⟨g2, 0, none⟩) xs2.length xs2.length] W (TermsPost ts' c' W))
    : Calls Try.prog 3 #[.int .i64 n0, .int .i64 n1, .slice a2 xs2.length cap2] w fun e w' => e = .returned (.bool true) ∧ Below w.heap.size w w' := by
  have HSp := Lib.hid hS
  have HIm := Lib.hid hI
  have R2_0 := Lib.hid (RowB.of_row hr2)
  have HZ2 := Lib.hid hs2
  clear hS hI hr2 hs2
  go_enter Try.func3, Try.ntmps3
  go_wp2_with fail
  refine (szTermS_row a2 cap2 xs2 hl2 HZ2.out 1048576 (by omega) _ (R2_0.out.row (by omega))).mono ?_
  rintro e w1 ⟨hsz2, hb1⟩
  have hz1 := hb1.size
  have R2_1 := Lib.hid (R2_0.out.below hb1 (by omega))
  have BW1 := Lib.hid ((hb1))
  clear hb1
  rcases hsz2 with rfl | ⟨r2, hr2a, hr2b, hfit2, rfl⟩
  · go_wp2
    go_ret
    exact ⟨rfl, BW1.out⟩
  have hl2_2 : xs2.length ≤ 1048576 := by omega
  go_wp2_with fail
  refine (toTermS_g a2 cap2 xs2 hl2_2 _ (R2_1.out.row (by omega))).mono ?_
  rintro e w2 ⟨gs2, rfl, hb2, hN2⟩
  have hz2 := hb2.size
  have R2_2 := Lib.hid (R2_1.out.below hb2 (by omega))
  have BW2 := Lib.hid (BW1.out.trans (hb2.mono (by omega)))
  have Gs2_2 := Lib.hid hN2
  clear hb2 hN2
  go_wp2_with fail
  refine (HSp.out _ _ hl2_2 Gs2_2.out.lt Gs2_2.out.2.2.2).mono ?_
  rintro e w3 ⟨xw, cw, rfl, hb3, hN3⟩
  have hz3 := hb3.size
  have R2_3 := Lib.hid (R2_2.out.below hb3 (by omega))
  have Gs2_3 := Lib.hid (Gs2_2.out.below hb3 (by omega))
  have BW3 := Lib.hid (BW2.out.trans (hb3.mono (by omega)))
  have Nw_3 := Lib.hid hN3
  clear hb3 hN3
  clear Gs2_3
  clear HSp
  go_wp2_with fail
  refine (toTermS_g a2 cap2 xs2 hl2_2 _ (R2_3.out.row (by omega))).mono ?_
  rintro e w4 ⟨gx2, rfl, hb4, hN4⟩
  have hz4 := hb4.size
  have R2_4 := Lib.hid (R2_3.out.below hb4 (by omega))
  have Nw_4 := Lib.hid (Nw_3.out.below hb4 (by omega))
  have BW4 := Lib.hid (BW3.out.trans (hb4.mono (by omega)))
  have Gx2_4 := Lib.hid hN4
  clear hb4 hN4
  go_wp2_with fail
  refine (HIm.out _ _ hl2_2 Gx2_4.out.lt Gx2_4.out.2.2.2).mono ?_
  rintro e w5 ⟨xg, cg, rfl, hb5, hN5⟩
  have hz5 := hb5.size
  have R2_5 := Lib.hid (R2_4.out.below hb5 (by omega))
  have Nw_5 := Lib.hid (Nw_4.out.below hb5 (by omega))
  have Gx2_5 := Lib.hid (Gx2_4.out.below hb5 (by omega))
  have BW5 := Lib.hid (BW4.out.trans (hb5.mono (by omega)))
  have Ng_5 := Lib.hid hN5
  clear hb5 hN5
  go_wp2_with fail
  refine (eqTermS_row xg xw _ _ ts' hl' _ Ng_5.out.row Nw_5.out.row).mono ?_
  rintro e w6 ⟨rfl, hb6⟩
  have hz6 := hb6.size
  have R2_6 := Lib.hid (R2_5.out.below hb6 (by omega))
  have Nw_6 := Lib.hid (Nw_5.out.below hb6 (by omega))
  have Gx2_6 := Lib.hid (Gx2_5.out.below hb6 (by omega))
  have Ng_6 := Lib.hid (Ng_5.out.below hb6 (by omega))
  have BW6 := Lib.hid (BW5.out.trans (hb6.mono (by omega)))
  clear hb6
  go_wp2_with fail
  refine (toTermS_g a2 cap2 xs2 hl2_2 _ (R2_6.out.row (by omega))).mono ?_
  rintro e w7 ⟨gy2, rfl, hb7, hN7⟩
  have hz7 := hb7.size
  have R2_7 := Lib.hid (R2_6.out.below hb7 (by omega))
  have Nw_7 := Lib.hid (Nw_6.out.below hb7 (by omega))
  have Gx2_7 := Lib.hid (Gx2_6.out.below hb7 (by omega))
  have Ng_7 := Lib.hid (Ng_6.out.below hb7 (by omega))
  have BW7 := Lib.hid (BW6.out.trans (hb7.mono (by omega)))
  have Gy2_7 := Lib.hid hN7
  clear hb7 hN7
  go_wp2_with fail
  refine (eqTermS_row (some ⟨gx2, 0, none⟩) (some ⟨gy2, 0, none⟩) _ _ xs2 hl2_2 _ Gx2_7.out.row Gy2_7.out.row).mono ?_
  rintro e w8 ⟨rfl, hb8⟩
  clear Gy2_7
  have hz8 := hb8.size
  have R2_8 := Lib.hid (R2_7.out.below hb8 (by omega))
  have Nw_8 := Lib.hid (Nw_7.out.below hb8 (by omega))
  have Gx2_8 := Lib.hid (Gx2_7.out.below hb8 (by omega))
  have Ng_8 := Lib.hid (Ng_7.out.below hb8 (by omega))
  have BW8 := Lib.hid (BW7.out.trans (hb8.mono (by omega)))
  clear hb8
  go_wp2_with fail
  refine (markTermS_row _ _ (some ⟨gx2, 0, none⟩) _ xs2 (1) (by omega) (by omega) _ Gx2_8.out.new).mono ?_
  rintro e w9 ⟨rr9, rfl, hG, hrr, hN9⟩
  clear Gx2_8
  have hz9 := hG.size
  have R2_9 := Lib.hid (R2_8.out.grown hG (by omega) (fun g h => by have := hrr g h; omega))
  have Nw_9 := Lib.hid (Nw_8.out.grown hG (fun g h => by have := hrr g h; omega))
  have Ng_9 := Lib.hid (Ng_8.out.grown hG (fun g h => by have := hrr g h; omega))
  have BW9 := Lib.hid (BW8.out.trans (below_of_grown hG (fun g h => by have := hrr g h; omega) (by omega)))
  clear hN9 hG hrr
  have hk9 : (0 : Int) ≤ 1 + 3 * (xs2.length : Int) := by omega
  go_wp2_with fail
  refine (eqTermS_row xg xw _ _ ts' hl' _ Ng_9.out.row Nw_9.out.row).mono ?_
  rintro e w10 ⟨rfl, hb10⟩
  have hz10 := hb10.size
  have R2_10 := Lib.hid (R2_9.out.below hb10 (by omega))
  have Nw_10 := Lib.hid (Nw_9.out.below hb10 (by omega))
  have Ng_10 := Lib.hid (Ng_9.out.below hb10 (by omega))
  have BW10 := Lib.hid (BW9.out.trans (hb10.mono (by omega)))
  clear hb10
  go_wp2_with fail
  refine (markTermS_row (w4.heap.size) (w5.heap.size) xg _ ts' (1) (by omega) (by omega) _ Ng_10.out).mono ?_
  rintro e w11 ⟨rr11, rfl, hG, hrr, hN11⟩
  clear Ng_10
  have hz11 := hG.size
  have R2_11 := Lib.hid (R2_10.out.grown hG (by omega) (fun g h => by have := hrr g h; omega))
  have Nw_11 := Lib.hid (Nw_10.out.grown hG (fun g h => by have := hrr g h; omega))
  have BW11 := Lib.hid (BW10.out.trans (below_of_grown hG (fun g h => by have := hrr g h; omega) (by omega)))
  have NM_11 := Lib.hid hN11
  clear hN11 hG hrr
  have hm11 : (0 : Int) ≤ 1 + 3 * (ts'.length : Int) := by omega
  go_wp2_with fail
  refine (heldTermS_row (w4.heap.size) (w5.heap.size) xg _ ts' 1 (by omega) (by omega) _ NM_11.out).mono ?_
  rintro e w12 ⟨rfl, hb12⟩
  have hz12 := hb12.size
  have R2_12 := Lib.hid (R2_11.out.below hb12 (by omega))
  have Nw_12 := Lib.hid (Nw_11.out.below hb12 (by omega))
  have NM_12 := Lib.hid (NM_11.out.below hb12 (by omega))
  have BW12 := Lib.hid (BW11.out.trans (hb12.mono (by omega)))
  clear hb12
  go_wp2_with fail
  refine (toTermS_g a2 cap2 xs2 hl2_2 _ (R2_12.out.row (by omega))).mono ?_
  rintro e w13 ⟨gz2, rfl, hb13, hN13⟩
  have hz13 := hb13.size
  have R2_13 := Lib.hid (R2_12.out.below hb13 (by omega))
  have Nw_13 := Lib.hid (Nw_12.out.below hb13 (by omega))
  have NM_13 := Lib.hid (NM_12.out.below hb13 (by omega))
  have BW13 := Lib.hid (BW12.out.trans (hb13.mono (by omega)))
  have Gz2_13 := Lib.hid hN13
  clear hb13 hN13
  go_wp2_with fail
  refine (HIm.out _ _ hl2_2 Gz2_13.out.lt Gz2_13.out.2.2.2).mono ?_
  rintro e w14 ⟨xh, ch, rfl, hb14, hN14⟩
  have hz14 := hb14.size
  have R2_14 := Lib.hid (R2_13.out.below hb14 (by omega))
  have Nw_14 := Lib.hid (Nw_13.out.below hb14 (by omega))
  have NM_14 := Lib.hid (NM_13.out.below hb14 (by omega))
  have Gz2_14 := Lib.hid (Gz2_13.out.below hb14 (by omega))
  have BW14 := Lib.hid (BW13.out.trans (hb14.mono (by omega)))
  have Nh_14 := Lib.hid hN14
  clear hb14 hN14
  clear Gz2_14
  clear HIm
  go_wp2_with fail
  refine (eqTermS_row xh xw _ _ ts' hl' _ Nh_14.out.row Nw_14.out.row).mono ?_
  rintro e w15 ⟨rfl, hb15⟩
  have hz15 := hb15.size
  have R2_15 := Lib.hid (R2_14.out.below hb15 (by omega))
  have Nw_15 := Lib.hid (Nw_14.out.below hb15 (by omega))
  have NM_15 := Lib.hid (NM_14.out.below hb15 (by omega))
  have Nh_15 := Lib.hid (Nh_14.out.below hb15 (by omega))
  have BW15 := Lib.hid (BW14.out.trans (hb15.mono (by omega)))
  clear hb15
  go_wp2_with fail
  refine (heldTermS_row (w4.heap.size) (w5.heap.size) xg _ ts' 1 (by omega) (by omega) _ NM_15.out).mono ?_
  rintro e w16 ⟨rfl, hb16⟩
  have hz16 := hb16.size
  have R2_16 := Lib.hid (R2_15.out.below hb16 (by omega))
  have Nw_16 := Lib.hid (Nw_15.out.below hb16 (by omega))
  have NM_16 := Lib.hid (NM_15.out.below hb16 (by omega))
  have Nh_16 := Lib.hid (Nh_15.out.below hb16 (by omega))
  have BW16 := Lib.hid (BW15.out.trans (hb16.mono (by omega)))
  clear hb16
  go_wp2
  go_ret
  exact ⟨rfl, BW16.out⟩
end Go.Proofs.Ytjjkkaikinjmdaa
