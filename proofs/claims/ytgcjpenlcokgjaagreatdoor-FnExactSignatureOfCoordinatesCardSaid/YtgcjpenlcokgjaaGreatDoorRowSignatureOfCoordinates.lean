/-
  'FnExactSignatureOfCoordinates' returns true at every input for which the two functions' contracts stand: the program's SignatureOfCoordinates and its model's return the same series and code, in memory of its own, and each list reads as before.
  'FnExactSignatureOfCoordinates' returns true at every input: the program's SignatureOfCoordinates and its model's return the same series and code, in memory of its own, and the list reads as before. No condition.
-/
import Derived.Test.YtgcjpenlcokgjaaGreatDoorTmR
import Derived.Test.YtgcjpenlcokgjaaGreatDoorSigC
import Derived.Test.YtgcjpenlcokgjaaGreatDoorOpenR
import Derived.Test.YtgcjpenlcokgjaaGreatDoorDoor
namespace Go.Proofs.YtgcjpenlcokgjaaGreatDoor
open Go.RowKit

set_option maxRecDepth 100000 in
set_option maxHeartbeats 8000000 in
theorem law_SignatureOfCoordinates (n0 : Int) (n1 : Int) (a2 : Option Addr) (cap2 : Nat) (xs2 : List Tm) (hl2 : xs2.length ≤ maxLen) (hs2 : ∀ i (h : i < xs2.length), (xs2[i]).s.size ≤ maxLen) (w : World) (hr2 : Row w a2 xs2) (L' V' c' : Int) (ts' : List Tm) (hl' : ts'.length ≤ 1048576)
    (hS : ∀ (W : World) (g2 : Nat), xs2.length ≤ 1048576 → g2 < W.heap.size → TermsIn W g2 0 xs2 → Calls Tryz.prog 17 #[.int .i64 n0, .int .i64 n1, .slice (some ⟨g2, 0, none⟩) xs2.length xs2.length] W (SerPost L' V' ts' c' W))
    (hI : ∀ (W : World) (g2 : Nat), xs2.length ≤ 1048576 → g2 < W.heap.size → TermsIn W g2 0 xs2 → Calls Tryz.prog 18 #[.int .i64 n0, .int .i64 n1, .slice (some ⟨g2, 0, none⟩) xs2.length xs2.length] W (SerPost L' V' ts' c' W))
    : Calls Tryz.prog 4 #[.int .i64 n0, .int .i64 n1, .slice a2 xs2.length cap2] w fun e w' => e = .returned (.bool true) ∧ Below w.heap.size w w' := by
  have HSp := Lib.hid hS
  have HIm := Lib.hid hI
  have R2_0 := Lib.hid (RowB.of_row hr2)
  have HZ2 := Lib.hid hs2
  clear hS hI hr2 hs2
  go_enter Tryz.func4, Tryz.ntmps4
  go_wp2_with fail
  refine (szTermS_row a2 cap2 xs2 hl2 HZ2.out 1048576 (by omega) _ (R2_0.out.row (by omega))).mono ?_
  rintro e w1 ⟨hsz2, hb1⟩
  have hz1 := hb1.size
  have R2_1 := Lib.hid (R2_0.out.below hb1 (by omega))
  have BW1 := Lib.hid ((hb1))
  clear hb1
  rcases hsz2 with rfl | ⟨r2, hr2a, hr2b, hfit2, rfl⟩
  · go_wp2
    go_ret
    exact ⟨rfl, BW1.out⟩
  have hl2_2 : xs2.length ≤ 1048576 := by omega
  go_wp2_with fail
  refine (toTermS_g a2 cap2 xs2 hl2_2 _ (R2_1.out.row (by omega))).mono ?_
  rintro e w2 ⟨gs2, rfl, hb2, hN2⟩
  have hz2 := hb2.size
  have R2_2 := Lib.hid (R2_1.out.below hb2 (by omega))
  have BW2 := Lib.hid (BW1.out.trans (hb2.mono (by omega)))
  have Gs2_2 := Lib.hid hN2
  clear hb2 hN2
  go_wp2_with fail
  refine (HSp.out _ _ hl2_2 Gs2_2.out.lt Gs2_2.out.2.2.2).mono ?_
  rintro e w3 ⟨xw, cw, rfl, hb3, hN3⟩
  have hz3 := hb3.size
  have R2_3 := Lib.hid (R2_2.out.below hb3 (by omega))
  have Gs2_3 := Lib.hid (Gs2_2.out.below hb3 (by omega))
  have BW3 := Lib.hid (BW2.out.trans (hb3.mono (by omega)))
  have Nw_3 := Lib.hid hN3
  clear hb3 hN3
  clear Gs2_3
  clear HSp
  go_wp2_with fail
  refine (toTermS_g a2 cap2 xs2 hl2_2 _ ((R2_3.out.below (below1 _ _) (by omega)).row (by simp; omega))).mono ?_
  rintro e w4 ⟨gx2, rfl, hb4, hN4⟩
  simp only [World.size_alloc] at hN4
  have hq4 := (below1 w3 (.cells #[.int .i64 L', .int .i64 V', .slice xw ts'.length cw] 26)).trans (hb4.mono (by simp))
  have hz4 : w3.heap.size < w4.heap.size := by have := hb4.size; simp at this; omega
  have R2_4 := Lib.hid (R2_3.out.below hq4 (by omega))
  have Nw_4 := Lib.hid (Nw_3.out.below hq4 (by omega))
  have Tw_4 := Lib.hid ((B3.new w3 _ _ _ 26).below hb4 (by simp))
  have BW4 := Lib.hid (BW3.out.trans (hq4.mono (by omega)))
  have Gx2_4 := Lib.hid hN4
  clear hb4 hN4
  obtain ⟨qTw, tw0, tw1, tw2⟩ := id Tw_4.out
  go_wp2_with fail
  refine (HIm.out _ _ hl2_2 Gx2_4.out.lt Gx2_4.out.2.2.2).mono ?_
  clear qTw tw0 tw1 tw2
  rintro e w5 ⟨xg, cg, rfl, hb5, hN5⟩
  have hz5 := hb5.size
  have R2_5 := Lib.hid (R2_4.out.below hb5 (by omega))
  have Nw_5 := Lib.hid (Nw_4.out.below hb5 (by omega))
  have Tw_5 := Lib.hid (Tw_4.out.below hb5 (by omega))
  have Gx2_5 := Lib.hid (Gx2_4.out.below hb5 (by omega))
  have BW5 := Lib.hid (BW4.out.trans (hb5.mono (by omega)))
  have Ng_5 := Lib.hid hN5
  clear hb5 hN5
  obtain ⟨qTw, tw0, tw1, tw2⟩ := id Tw_5.out
  go_wp2_with fail
  refine (eqSeries_row L' V' xg xw _ _ ts' hl' _ (Ng_5.out.below (below1 _ _) (by omega)).row (Nw_5.out.below (below1 _ _) (by omega)).row).mono ?_
  clear qTw tw0 tw1 tw2
  rintro e w6 ⟨rfl, hb6⟩
  have hq6 := (below1 w5 (.cells #[.int .i64 L', .int .i64 V', .slice xg ts'.length cg] 26)).trans (hb6.mono (by simp))
  have hz6 : w5.heap.size < w6.heap.size := by have := hb6.size; simp at this; omega
  have R2_6 := Lib.hid (R2_5.out.below hq6 (by omega))
  have Nw_6 := Lib.hid (Nw_5.out.below hq6 (by omega))
  have Tw_6 := Lib.hid (Tw_5.out.below hq6 (by omega))
  have Gx2_6 := Lib.hid (Gx2_5.out.below hq6 (by omega))
  have Ng_6 := Lib.hid (Ng_5.out.below hq6 (by omega))
  have Tg_6 := Lib.hid ((B3.new w5 _ _ _ 26).below hb6 (by simp))
  have BW6 := Lib.hid (BW5.out.trans (hq6.mono (by omega)))
  clear hb6
  obtain ⟨qTw, tw0, tw1, tw2⟩ := id Tw_6.out
  obtain ⟨qTg, tg0, tg1, tg2⟩ := id Tg_6.out
  go_wp2_with fail
  refine (toTermS_g a2 cap2 xs2 hl2_2 _ (R2_6.out.row (by omega))).mono ?_
  clear qTw tw0 tw1 tw2 qTg tg0 tg1 tg2
  rintro e w7 ⟨gy2, rfl, hb7, hN7⟩
  have hz7 := hb7.size
  have R2_7 := Lib.hid (R2_6.out.below hb7 (by omega))
  have Nw_7 := Lib.hid (Nw_6.out.below hb7 (by omega))
  have Tw_7 := Lib.hid (Tw_6.out.below hb7 (by omega))
  have Gx2_7 := Lib.hid (Gx2_6.out.below hb7 (by omega))
  have Ng_7 := Lib.hid (Ng_6.out.below hb7 (by omega))
  have Tg_7 := Lib.hid (Tg_6.out.below hb7 (by omega))
  have BW7 := Lib.hid (BW6.out.trans (hb7.mono (by omega)))
  have Gy2_7 := Lib.hid hN7
  clear hb7 hN7
  obtain ⟨qTw, tw0, tw1, tw2⟩ := id Tw_7.out
  obtain ⟨qTg, tg0, tg1, tg2⟩ := id Tg_7.out
  go_wp2_with fail
  refine (eqTermS_row (some ⟨gx2, 0, none⟩) (some ⟨gy2, 0, none⟩) _ _ xs2 hl2_2 _ Gx2_7.out.row Gy2_7.out.row).mono ?_
  clear qTw tw0 tw1 tw2 qTg tg0 tg1 tg2
  rintro e w8 ⟨rfl, hb8⟩
  clear Gy2_7
  have hz8 := hb8.size
  have R2_8 := Lib.hid (R2_7.out.below hb8 (by omega))
  have Nw_8 := Lib.hid (Nw_7.out.below hb8 (by omega))
  have Tw_8 := Lib.hid (Tw_7.out.below hb8 (by omega))
  have Gx2_8 := Lib.hid (Gx2_7.out.below hb8 (by omega))
  have Ng_8 := Lib.hid (Ng_7.out.below hb8 (by omega))
  have Tg_8 := Lib.hid (Tg_7.out.below hb8 (by omega))
  have BW8 := Lib.hid (BW7.out.trans (hb8.mono (by omega)))
  clear hb8
  obtain ⟨qTw, tw0, tw1, tw2⟩ := id Tw_8.out
  obtain ⟨qTg, tg0, tg1, tg2⟩ := id Tg_8.out
  go_wp2_with fail
  refine (markTermS_row _ _ (some ⟨gx2, 0, none⟩) _ xs2 (1) (by omega) (by omega) _ Gx2_8.out.new).mono ?_
  clear qTw tw0 tw1 tw2 qTg tg0 tg1 tg2
  rintro e w9 ⟨rr9, rfl, hG, hrr, hN9⟩
  clear Gx2_8
  have hz9 := hG.size
  have R2_9 := Lib.hid (R2_8.out.grown hG (by omega) (fun g h => by have := hrr g h; omega))
  have Nw_9 := Lib.hid (Nw_8.out.grown hG (fun g h => by have := hrr g h; omega))
  have Tw_9 := Lib.hid (Tw_8.out.grown hG (fun h => by have := hrr _ h; omega))
  have Ng_9 := Lib.hid (Ng_8.out.grown hG (fun g h => by have := hrr g h; omega))
  have Tg_9 := Lib.hid (Tg_8.out.grown hG (fun h => by have := hrr _ h; omega))
  have BW9 := Lib.hid (BW8.out.trans (below_of_grown hG (fun g h => by have := hrr g h; omega) (by omega)))
  clear hN9 hG hrr
  have hk9 : (0 : Int) ≤ 1 + 3 * (xs2.length : Int) := by omega
  obtain ⟨qTw, tw0, tw1, tw2⟩ := id Tw_9.out
  obtain ⟨qTg, tg0, tg1, tg2⟩ := id Tg_9.out
  go_wp2_with fail
  refine (eqSeries_row L' V' xg xw _ _ ts' hl' _ Ng_9.out.row Nw_9.out.row).mono ?_
  clear qTw tw0 tw1 tw2 qTg tg0 tg1 tg2
  rintro e w10 ⟨rfl, hb10⟩
  have hz10 := hb10.size
  have R2_10 := Lib.hid (R2_9.out.below hb10 (by omega))
  have Nw_10 := Lib.hid (Nw_9.out.below hb10 (by omega))
  have Tw_10 := Lib.hid (Tw_9.out.below hb10 (by omega))
  have Ng_10 := Lib.hid (Ng_9.out.below hb10 (by omega))
  have Tg_10 := Lib.hid (Tg_9.out.below hb10 (by omega))
  have BW10 := Lib.hid (BW9.out.trans (hb10.mono (by omega)))
  clear hb10
  obtain ⟨qTw, tw0, tw1, tw2⟩ := id Tw_10.out
  obtain ⟨qTg, tg0, tg1, tg2⟩ := id Tg_10.out
  go_wp2_with fail
  refine (markSeries_row L' V' (w4.heap.size) (w5.heap.size) xg _ ts' (1) (by omega) (by omega) _ Ng_10.out).mono ?_
  clear qTw tw0 tw1 tw2 qTg tg0 tg1 tg2
  rintro e w11 ⟨rr11, rfl, hG, hrr, hN11⟩
  clear Ng_10
  have hz11 := hG.size
  have R2_11 := Lib.hid (R2_10.out.grown hG (by omega) (fun g h => by have := hrr g h; omega))
  have Nw_11 := Lib.hid (Nw_10.out.grown hG (fun g h => by have := hrr g h; omega))
  have Tw_11 := Lib.hid (Tw_10.out.grown hG (fun h => by have := hrr _ h; omega))
  have Tg_11 := Lib.hid (Tg_10.out.grown hG (fun h => by have := hrr _ h; omega))
  have BW11 := Lib.hid (BW10.out.trans (below_of_grown hG (fun g h => by have := hrr g h; omega) (by omega)))
  have NM_11 := Lib.hid hN11
  clear hN11 hG hrr
  have hm11 : (0 : Int) ≤ 1 + 3 * (ts'.length : Int) := by omega
  obtain ⟨qTw, tw0, tw1, tw2⟩ := id Tw_11.out
  obtain ⟨qTg, tg0, tg1, tg2⟩ := id Tg_11.out
  go_wp2_with fail
  refine (heldSeries_row L' V' (w4.heap.size) (w5.heap.size) xg _ ts' 1 (by omega) (by omega) _ NM_11.out).mono ?_
  clear qTw tw0 tw1 tw2 qTg tg0 tg1 tg2
  rintro e w12 ⟨rfl, hb12⟩
  have hz12 := hb12.size
  have R2_12 := Lib.hid (R2_11.out.below hb12 (by omega))
  have Nw_12 := Lib.hid (Nw_11.out.below hb12 (by omega))
  have Tw_12 := Lib.hid (Tw_11.out.below hb12 (by omega))
  have Tg_12 := Lib.hid (Tg_11.out.below hb12 (by omega))
  have NM_12 := Lib.hid (NM_11.out.below hb12 (by omega))
  have BW12 := Lib.hid (BW11.out.trans (hb12.mono (by omega)))
  clear hb12
  obtain ⟨qTw, tw0, tw1, tw2⟩ := id Tw_12.out
  obtain ⟨qTg, tg0, tg1, tg2⟩ := id Tg_12.out
  go_wp2_with fail
  refine (toTermS_g a2 cap2 xs2 hl2_2 _ (R2_12.out.row (by omega))).mono ?_
  clear qTw tw0 tw1 tw2 qTg tg0 tg1 tg2
  rintro e w13 ⟨gz2, rfl, hb13, hN13⟩
  have hz13 := hb13.size
  have R2_13 := Lib.hid (R2_12.out.below hb13 (by omega))
  have Nw_13 := Lib.hid (Nw_12.out.below hb13 (by omega))
  have Tw_13 := Lib.hid (Tw_12.out.below hb13 (by omega))
  have Tg_13 := Lib.hid (Tg_12.out.below hb13 (by omega))
  have NM_13 := Lib.hid (NM_12.out.below hb13 (by omega))
  have BW13 := Lib.hid (BW12.out.trans (hb13.mono (by omega)))
  have Gz2_13 := Lib.hid hN13
  clear hb13 hN13
  obtain ⟨qTw, tw0, tw1, tw2⟩ := id Tw_13.out
  obtain ⟨qTg, tg0, tg1, tg2⟩ := id Tg_13.out
  go_wp2_with fail
  refine (HIm.out _ _ hl2_2 Gz2_13.out.lt Gz2_13.out.2.2.2).mono ?_
  clear qTw tw0 tw1 tw2 qTg tg0 tg1 tg2
  rintro e w14 ⟨xh, ch, rfl, hb14, hN14⟩
  have hz14 := hb14.size
  have R2_14 := Lib.hid (R2_13.out.below hb14 (by omega))
  have Nw_14 := Lib.hid (Nw_13.out.below hb14 (by omega))
  have Tw_14 := Lib.hid (Tw_13.out.below hb14 (by omega))
  have Tg_14 := Lib.hid (Tg_13.out.below hb14 (by omega))
  have NM_14 := Lib.hid (NM_13.out.below hb14 (by omega))
  have Gz2_14 := Lib.hid (Gz2_13.out.below hb14 (by omega))
  have BW14 := Lib.hid (BW13.out.trans (hb14.mono (by omega)))
  have Nh_14 := Lib.hid hN14
  clear hb14 hN14
  clear Gz2_14
  clear HIm
  obtain ⟨qTw, tw0, tw1, tw2⟩ := id Tw_14.out
  obtain ⟨qTg, tg0, tg1, tg2⟩ := id Tg_14.out
  go_wp2_with fail
  refine (eqSeries_row L' V' xh xw _ _ ts' hl' _ (Nh_14.out.below (below1 _ _) (by omega)).row (Nw_14.out.below (below1 _ _) (by omega)).row).mono ?_
  clear qTw tw0 tw1 tw2 qTg tg0 tg1 tg2
  rintro e w15 ⟨rfl, hb15⟩
  have hq15 := (below1 w14 (.cells #[.int .i64 L', .int .i64 V', .slice xh ts'.length ch] 26)).trans (hb15.mono (by simp))
  have hz15 : w14.heap.size < w15.heap.size := by have := hb15.size; simp at this; omega
  have R2_15 := Lib.hid (R2_14.out.below hq15 (by omega))
  have Nw_15 := Lib.hid (Nw_14.out.below hq15 (by omega))
  have Tw_15 := Lib.hid (Tw_14.out.below hq15 (by omega))
  have Tg_15 := Lib.hid (Tg_14.out.below hq15 (by omega))
  have NM_15 := Lib.hid (NM_14.out.below hq15 (by omega))
  have Nh_15 := Lib.hid (Nh_14.out.below hq15 (by omega))
  have Th_15 := Lib.hid ((B3.new w14 _ _ _ 26).below hb15 (by simp))
  have BW15 := Lib.hid (BW14.out.trans (hq15.mono (by omega)))
  clear hb15
  obtain ⟨qTw, tw0, tw1, tw2⟩ := id Tw_15.out
  obtain ⟨qTg, tg0, tg1, tg2⟩ := id Tg_15.out
  obtain ⟨qTh, th0, th1, th2⟩ := id Th_15.out
  go_wp2_with fail
  refine (heldSeries_row L' V' (w4.heap.size) (w5.heap.size) xg _ ts' 1 (by omega) (by omega) _ NM_15.out).mono ?_
  clear qTw tw0 tw1 tw2 qTg tg0 tg1 tg2 qTh th0 th1 th2
  rintro e w16 ⟨rfl, hb16⟩
  have hz16 := hb16.size
  have R2_16 := Lib.hid (R2_15.out.below hb16 (by omega))
  have Nw_16 := Lib.hid (Nw_15.out.below hb16 (by omega))
  have Tw_16 := Lib.hid (Tw_15.out.below hb16 (by omega))
  have Tg_16 := Lib.hid (Tg_15.out.below hb16 (by omega))
  have NM_16 := Lib.hid (NM_15.out.below hb16 (by omega))
  have Nh_16 := Lib.hid (Nh_15.out.below hb16 (by omega))
  have Th_16 := Lib.hid (Th_15.out.below hb16 (by omega))
  have BW16 := Lib.hid (BW15.out.trans (hb16.mono (by omega)))
  clear hb16
  go_wp2
  go_ret
  exact ⟨rfl, BW16.out⟩
end Go.Proofs.YtgcjpenlcokgjaaGreatDoor

namespace Go.Proofs.YtgcjpenlcokgjaaGreatDoor
open Go.ChangeShapes Go.WideShapes Go.ChangeAt Go.RowKit

theorem main_SignatureOfCoordinates (L V : Int) (a : Option Addr) (cap : Nat) (ts : List Tm) (hl : ts.length ≤ maxLen) (hs : ∀ i (h : i < ts.length), (ts[i]).s.size ≤ maxLen) (w : World) (hr : Row w a ts) :
    Calls Tryz.prog 4 #[.int .i64 L, .int .i64 V, .slice a ts.length cap] w fun e w' => e = .returned (.bool true) ∧ Below w.heap.size w w' := by
  have law := law_SignatureOfCoordinates L V a cap ts hl hs w hr
  by_cases hbig : ts.length ≤ 1048576
  · cases h1 : givB L V ts with
    | false => exact law 0 0 2 [] (by simp) (fun W g q hb ht => sSgc_1 g ts q hs L V h1 W hb ht) (fun W g q hb ht => iSgc_1 g ts q hs L V h1 W hb ht)
    | true =>
      have hser := (giv_true h1).1
      have hsh : shapeB L V = true := by unfold serB at hser; rw [Bool.and_eq_true] at hser; exact hser.1
      have hLV := shape_out hsh
      obtain ⟨D, rfl⟩ : ∃ D : Nat, L = D := ⟨L.toNat, by omega⟩
      obtain ⟨N, rfl⟩ : ∃ N : Nat, V = N := ⟨V.toNat, by omega⟩
      have hfew := allW_few (D := D) (by omega) (n := N) (by omega)
      have HS := fun W g q1 hb ht => sSgc_2 D N g ts q1 hs h1 W hb ht
      have HI := fun W g q1 hb ht => iSgc_2 D N g ts q1 hs h1 W hb ht
      cases hv : sgcW (allW D N) ts N with
      | none =>
        rw [hv] at HS HI
        exact law 0 0 3 [] (by simp) (fun W g q1 hb ht => HS W g q1 hb ht) (fun W g q1 hb ht => HI W g q1 hb ht)
      | some h =>
        rw [hv] at HS HI
        have hlen := termsOf_len h (allW D N)
        exact law D N 0 (termsOf h (allW D N)) (by omega) (fun W g q1 hb ht => HS W g q1 hb ht) (fun W g q1 hb ht => HI W g q1 hb ht)
  · exact law 0 0 0 [] (by simp) (fun W g q _ _ => absurd q hbig) (fun W g q _ _ => absurd q hbig)

namespace fnExactSignatureOfCoordinates
set_option maxRecDepth 100000 in
theorem lifted (os : Os) (started : os.Started) (H : Type) (enc : TypeId × Value → H) :
    ReturnsInHanded {} Tryz.checked os 4 .any (fun w args => (Rows.fnExactSignatureOfCoordinatesSpec.pre enc Tryz.prog Tryz.f4 [] false w args ∧ laidMetH Tryz.prog Rows.fnExactSignatureOfCoordinatesRow.laid w) ∧ sizedMet enc Tryz.prog Tryz.f4 (OpenSpec.ofChange Rows.fnExactSignatureOfCoordinatesSpec) false w args)
      (Rows.fnExactSignatureOfCoordinatesSpec.post enc Tryz.prog Tryz.f4 false true false false) := by
  refine returnsInHanded_of_change_and (C := Tryz.checked) (X := fun w _ => laidMetH Tryz.prog Rows.fnExactSignatureOfCoordinatesRow.laid w) (fun _ _ _ hh h => h.of_heap hh) seatOwn started (by kernel_rfl) Tryz.func4
    (ChangeSpec.witness_shaped (enc := enc) (C := Tryz.checked) (os := os) (X := fun w _ => laidMetH Tryz.prog Rows.fnExactSignatureOfCoordinatesRow.laid w) false (World.doorLaid Tryz.prog 400 os) #[.int .i64 0, .int .i64 0, .slice none 0 0] 8 rfl (door_shaped os _) (by kernel_rfl) (by kernel_rfl) (by kernel_rfl) (door_met3 os _)) ?_
  intro W base args ds gs before hval0 hW _ _ _ _
  have hval : ∀ (j : Nat) t v, Tryz.f4.params[j]? = some t → args[j]? = some v → Value.okWide Tryz.prog W .any base t v := hval0
  have hW' := hW
  have hlt : ∀ x ∈ before, x.block < W.heap.size := fun x hx => hW.lt x hx
  obtain ⟨p, q, hA0, hV, rfl, _, _⟩ := hW
  have hA : DataW.TrodAll enc Tryz.prog W 0 (fun _ => true) true Tryz.f4.params.toList args.toList ds p := hA0
  rw [Tryz.params4] at hA hval
  obtain ⟨v0, vs0, d00, ds0, p0, q0, hargs, rfl, rfl, h0, r0⟩ := trodAll_cons hA
  obtain ⟨v1, vs1, d10, ds1, p1, q1, rfl, rfl, rfl, h1, r1⟩ := trodAll_cons r0
  obtain ⟨v2, vs2, d20, ds2, p2, q2, rfl, rfl, rfl, h2, r2⟩ := trodAll_cons r1
  obtain ⟨rfl, rfl, rfl⟩ := trodAll_nil r2
  obtain rfl : args = #[v0, v1, v2] := by cases args; simp_all
  obtain ⟨rfl, rfl⟩ := trodVars_none hV
  obtain ⟨n0, rfl, rfl, rfl, wf0⟩ := open_int Tryz.underlying2 (hval 0 2 v0 rfl rfl) h0
  obtain ⟨n1, rfl, rfl, rfl, wf1⟩ := open_int Tryz.underlying2 (hval 1 2 v1 rfl rfl) h1
  have h2k := h2
  obtain ⟨a2, cap2, ps2, rfl, hl2, hs2, hr2⟩ := open_terms (hval 2 22 v2 rfl rfl) h2
  clear hA0 hval0
  simp only [List.append_nil] at hW' hlt
  refine (main_SignatureOfCoordinates n0 n1 a2 cap2 ps2 hl2 hs2 W hr2).mono fun e W' ⟨he, hg⟩ => ?_
  subst he
  have hk2 := Below.trod seatLaid (by kernel_rfl) (of_decide_eq_true (by kernel_rfl)) h2k hg (fun x hx => hlt x (by simp [hx]))
  exact ⟨_, rfl, shut_reads (pa := p2) hW' (fun _ _ _ => (trodAll_cons_mk (shut_bool Tryz.underlying4 _) trodAll_mk0)) (by have h := (trodAll_cons_mk (shut_int Tryz.underlying2 wf0) (trodAll_cons_mk (shut_int Tryz.underlying2 wf1) (trodAll_cons_mk hk2 trodAll_mk0))); simp only [List.append_nil] at h; exact h) (fun _ => rfl) hg⟩
end fnExactSignatureOfCoordinates
end Go.Proofs.YtgcjpenlcokgjaaGreatDoor
