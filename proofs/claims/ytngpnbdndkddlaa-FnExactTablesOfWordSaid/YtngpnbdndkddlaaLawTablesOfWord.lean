/-
  'FnExactTablesOfWord' returns true at every input for which the two functions' contracts stand: the program's TablesOfWord and its model's return the same tables and code, in memory of their own.
-/
import Derived.Test.YtngpnbdndkddlaaTabS
namespace Go.Proofs.Ytngpnbdndkddlaa
open Go.RowKit

set_option maxRecDepth 100000 in
set_option maxHeartbeats 4000000 in
theorem law_TablesOfWord (n0 : Int) (s1 : ByteArray) (_ : s1.size ≤ maxLen) (w : World) (ts' : Tabs) (c' : Int) (hl' : ts'.length ≤ 1048576) (hs' : sz3 ts' ≤ 1048576)
    (hS : ∀ W : World, Calls Try.prog 21 #[.int .i64 n0, .string s1] W (TbrPost ts' c' W))
    (hI : ∀ W : World, Calls Try.prog 22 #[.int .i64 n0, .string s1] W (TblsPost ts' c' W)) :
    Calls Try.prog 6 #[.int .i64 n0, .string s1] w fun e w' => e = .returned (.bool true) ∧ Below w.heap.size w w' := by
  have HSp := Lib.hid hS
  have HIm := Lib.hid hI
  have hff := flat3_sz3 ts'
  clear hS hI
  by_cases hbig1 : (1048576 : Int) < (s1.size : Int)
  · go_enter Try.func6, Try.ntmps6
    go_wp2
    go_ret
    exact ⟨rfl, Below.refl _ _⟩
  go_enter Try.func6, Try.ntmps6
  go_wp2_with fail
  refine (HSp.out _).mono ?_
  rintro e w1 ⟨aw, cw, rfl, hb1, hN1⟩
  have hz1 := hb1.size
  have B1 := Lib.hid hb1
  have K1 := Lib.hid hN1
  clear hb1 hN1 HSp
  go_wp2_with fail
  refine (HIm.out _).mono ?_
  rintro e w2 ⟨ag, cg, rfl, hb2, hN2⟩
  have hz2 := hb2.size
  have B2 := Lib.hid (B1.out.trans (hb2.mono hz1))
  have K2 := Lib.hid (K1.out.below hb2 (Nat.le_refl _))
  have G2 := Lib.hid hN2
  clear hb2 hN2
  go_wp2_with fail
  refine (eqInt64SSS_row _ _ _ _ ag aw _ _ ts' hl' hs' _ G2.out.row K2.out (Nat.le_refl _) hz2).mono ?_
  rintro e w3 ⟨rfl, hb3⟩
  have hz3 := hb3.size
  have B3 := Lib.hid (B2.out.trans (hb3.mono (by omega)))
  have K3 := Lib.hid (K2.out.below hb3 hz2)
  have G3 := Lib.hid (G2.out.below hb3 (Nat.le_refl _))
  clear hb3
  go_wp2_with fail
  refine (markInt64SSS_row w1.heap.size w2.heap.size ag _ ts' 1 (by omega) (by omega) hl' hs' _ G3.out).mono ?_
  rintro e w4 ⟨rfl, hO4, hN4⟩
  have hz4 := hO4.size
  have B4 := Lib.hid (B3.out.trans (hO4.below (B := w.heap.size) (by omega) (by omega)))
  have K4 := Lib.hid (K3.out.outside hO4 (by omega) (.inl (Nat.le_refl _)))
  have M4 := Lib.hid hN4
  clear hO4 hN4
  have hm4 : (0 : Int) ≤ 1 + (flat3 ts' : Int) := by omega
  go_wp2_with fail
  refine (heldInt64SSS_row w1.heap.size w2.heap.size ag _ ts' 1 (by omega) (by omega) hl' hs' _ M4.out).mono ?_
  rintro e w5 ⟨rfl, hb5⟩
  have hz5 := hb5.size
  have B5 := Lib.hid (B4.out.trans (hb5.mono (by omega)))
  have K5 := Lib.hid (K4.out.below hb5 (by omega))
  have M5 := Lib.hid (M4.out.below hb5 (by omega))
  clear hb5
  go_wp2_with fail
  refine (HIm.out _).mono ?_
  rintro e w6 ⟨ah, ch, rfl, hb6, hN6⟩
  have hz6 := hb6.size
  have B6 := Lib.hid (B5.out.trans (hb6.mono (by omega)))
  have K6 := Lib.hid (K5.out.below hb6 (by omega))
  have M6 := Lib.hid (M5.out.below hb6 (by omega))
  have H6 := Lib.hid hN6.row
  clear hb6 hN6
  go_wp2_with fail
  refine (eqInt64SSS_row _ _ _ _ ah aw _ _ ts' hl' hs' _ H6.out K6.out (Nat.le_refl _) (by omega)).mono ?_
  rintro e w7 ⟨rfl, hb7⟩
  have hz7 := hb7.size
  have B7 := Lib.hid (B6.out.trans (hb7.mono (by omega)))
  have M7 := Lib.hid (M6.out.below hb7 (by omega))
  clear hb7
  go_wp2_with fail
  refine (heldInt64SSS_row w1.heap.size w2.heap.size ag _ ts' 1 (by omega) (by omega) hl' hs' _ M7.out).mono ?_
  rintro e w8 ⟨rfl, hb8⟩
  have B8 := Lib.hid (B7.out.trans (hb8.mono (by omega)))
  clear hb8
  go_wp2
  go_ret
  exact ⟨rfl, B8.out⟩
end Go.Proofs.Ytngpnbdndkddlaa
