/-
  'FnExactParseGroup' returns true at every input for which the two functions' contracts stand: the program's ParseGroup and its model's return the same numbers and code, in memory of their own.
-/
import Derived.Test.YtnhiceopgjfaaaaIntC
namespace Go.Proofs.Ytnhiceopgjfaaaa
open Go.RowKit

set_option maxRecDepth 100000 in
set_option maxHeartbeats 8000000 in
theorem law_ParseGroup (n0 : Int) (s1 : ByteArray) (_hz1 : s1.size ≤ maxLen) (w : World)  (zs' : List Int) (c' : Int) (hz' : zs'.length ≤ 1048576)
    (hS : ∀ (W : World) , Calls Try.prog 38 #[.int .i64 n0, .string s1] W (NumsPost zs' c' W))
    (hI : ∀ (W : World) , Calls Try.prog 39 #[.int .i64 n0, .string s1] W (NumsPost zs' c' W))
    : Calls Try.prog 12 #[.int .i64 n0, .string s1] w fun e w' => e = .returned (.bool true) ∧ Below w.heap.size w w' := by
  have HSp := Lib.hid hS
  have HIm := Lib.hid hI
  clear hS hI 
  by_cases hbig1 : (1048576 : Int) < (s1.size : Int)
  · go_enter Try.func12, Try.ntmps12
    go_wp2
    go_ret
    exact ⟨rfl, Below.refl _ _⟩
  have hl2_1 : s1.size ≤ 1048576 := by omega
  go_enter Try.func12, Try.ntmps12
  go_wp2_with fail
  refine (HSp.out _).mono ?_
  rintro e w1 ⟨xw, cw, rfl, hb1, hN1⟩
  have hz1 := hb1.size
  have B1 := Lib.hid ((hb1))
  have Nw_1 := Lib.hid hN1
  clear hb1 hN1
  clear HSp
  go_wp2_with fail
  refine (HIm.out _).mono ?_
  rintro e w2 ⟨xg, cg, rfl, hb2, hN2⟩
  have hz2 := hb2.size
  have Nw_2 := Lib.hid (Nw_1.out.below hb2 (by omega))
  have B2 := Lib.hid (B1.out.trans (hb2.mono (by omega)))
  have Ng_2 := Lib.hid hN2
  clear hb2 hN2
  go_wp2_with fail
  refine (eqInt64S_row _ _ _ _ xg xw _ _ zs' hz' _ Ng_2.out.row Nw_2.out.row (by omega) (by omega)).mono ?_
  rintro e w3 ⟨rfl, hb3⟩
  have hz3 := hb3.size
  have Nw_3 := Lib.hid (Nw_2.out.below hb3 (by omega))
  have Ng_3 := Lib.hid (Ng_2.out.below hb3 (by omega))
  have B3 := Lib.hid (B2.out.trans (hb3.mono (by omega)))
  clear hb3
  go_wp2_with fail
  refine (markInt64S_row (w1.heap.size) (w2.heap.size) xg _ zs' 1 (by omega) (by omega) _ Ng_3.out).mono ?_
  rintro e w4 ⟨rr, rfl, hG, hrr, hN4⟩
  have hO4 := Outside.of_grown hG (fun g h => ⟨(hrr g h).1, (hrr g h).2.1⟩)
  clear Ng_3
  have hz4 := hO4.size
  have Nw_4 := Lib.hid (Nw_3.out.outside hO4 (by omega))
  have B4 := Lib.hid (B3.out.trans (hO4.below (B := w.heap.size) (by omega) (by omega)))
  have M_4 := Lib.hid hN4
  clear hO4 hN4 hG hrr
  have hm4 : (0 : Int) ≤ 1 + (zs'.length : Int) := by omega
  go_wp2_with fail
  refine (heldInt64S_row (w1.heap.size) (w2.heap.size) xg _ zs' 1 (by omega) (by omega) _ M_4.out).mono ?_
  rintro e w5 ⟨rfl, hb5⟩
  have hz5 := hb5.size
  have Nw_5 := Lib.hid (Nw_4.out.below hb5 (by omega))
  have M_5 := Lib.hid (M_4.out.below hb5 (by omega))
  have B5 := Lib.hid (B4.out.trans (hb5.mono (by omega)))
  clear hb5
  go_wp2_with fail
  refine (HIm.out _).mono ?_
  rintro e w6 ⟨xh, ch, rfl, hb6, hN6⟩
  have hz6 := hb6.size
  have Nw_6 := Lib.hid (Nw_5.out.below hb6 (by omega))
  have M_6 := Lib.hid (M_5.out.below hb6 (by omega))
  have B6 := Lib.hid (B5.out.trans (hb6.mono (by omega)))
  have Nh_6 := Lib.hid hN6
  clear hb6 hN6
  clear HIm
  go_wp2_with fail
  refine (eqInt64S_row _ _ _ _ xh xw _ _ zs' hz' _ Nh_6.out.row Nw_6.out.row (by omega) (by omega)).mono ?_
  rintro e w7 ⟨rfl, hb7⟩
  have hz7 := hb7.size
  have Nw_7 := Lib.hid (Nw_6.out.below hb7 (by omega))
  have M_7 := Lib.hid (M_6.out.below hb7 (by omega))
  have Nh_7 := Lib.hid (Nh_6.out.below hb7 (by omega))
  have B7 := Lib.hid (B6.out.trans (hb7.mono (by omega)))
  clear hb7
  go_wp2_with fail
  refine (heldInt64S_row (w1.heap.size) (w2.heap.size) xg _ zs' 1 (by omega) (by omega) _ M_7.out).mono ?_
  rintro e w8 ⟨rfl, hb8⟩
  have hz8 := hb8.size
  have Nw_8 := Lib.hid (Nw_7.out.below hb8 (by omega))
  have M_8 := Lib.hid (M_7.out.below hb8 (by omega))
  have Nh_8 := Lib.hid (Nh_7.out.below hb8 (by omega))
  have B8 := Lib.hid (B7.out.trans (hb8.mono (by omega)))
  clear hb8
  go_wp2
  go_ret
  exact ⟨rfl, B8.out⟩
end Go.Proofs.Ytnhiceopgjfaaaa
