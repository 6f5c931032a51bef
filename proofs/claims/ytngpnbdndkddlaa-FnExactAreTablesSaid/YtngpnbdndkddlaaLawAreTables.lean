/-
  'FnExactAreTables' returns true at every input: the program's AreTables and its model's agree, and the tables read as before. No condition.
-/
import Derived.Test.YtngpnbdndkddlaaAreT
namespace Go.Proofs.Ytngpnbdndkddlaa
open Go.RowKit

set_option maxHeartbeats 1000000 in
theorem law_AreTables (L : Int) (a : Option Addr) (cap : Nat) (ps : Tabs) (hl : ps.length ≤ maxLen) (hs : ∀ i (h : i < ps.length), (ps[i]).length ≤ maxLen ∧ ∀ j (h2 : j < (ps[i]).length), ((ps[i])[j]).length ≤ maxLen) (w : World) (hr : TRow 0 w.heap.size w a ps) :
    Calls Try.prog 3 #[.int .i64 L, .slice a ps.length cap] w fun e w' => e = .returned (.bool true) ∧ Below w.heap.size w w' := by
  have HR := Lib.hid hr
  have HS := Lib.hid hs
  clear hr hs
  go_enter Try.func3, Try.ntmps3
  go_wp2_with fail
  refine (szInt64SSS_c 0 w.heap.size a cap ps hl HS.out 1048576 (by omega) _ HR.out (Nat.le_refl _)).mono ?_
  rintro e w1 ⟨he, hb1⟩
  have hz1 := hb1.size
  have B1 := Lib.hid hb1
  have R1 := Lib.hid (HR.out.below hb1 (Nat.le_refl _))
  clear hb1
  rcases he with rfl | ⟨r, hr0, hr1, rfl⟩
  · go_wp2
    go_ret
    exact ⟨rfl, B1.out⟩
  have hl2 : ps.length ≤ 1048576 := by omega
  have hs2 : sz3 ps ≤ 1048576 := by omega
  clear hr1
  go_wp2_with fail
  refine (toInt64SSS_c 0 w.heap.size a cap ps hl2 hs2 _ R1.out hz1).mono ?_
  rintro e w2 ⟨a2, rfl, hb2, hN2⟩
  have hz2 := hb2.size
  have B2 := Lib.hid (B1.out.trans (hb2.mono hz1))
  have R2 := Lib.hid (R1.out.below hb2 hz1)
  have N2 := Lib.hid hN2.row
  clear hb2 hN2
  go_wp2_with fail
  refine (sAreT_c _ _ L a2 _ ps hl2 hs2 _ N2.out).mono ?_
  rintro e w3 ⟨rfl, rfl⟩
  go_wp2_with fail
  refine (toInt64SSS_c 0 w.heap.size a cap ps hl2 hs2 _ R2.out (by omega)).mono ?_
  rintro e w4 ⟨a4, rfl, hb4, hN4⟩
  have hz4 := hb4.size
  have B4 := Lib.hid (B2.out.trans (hb4.mono (by omega)))
  have R4 := Lib.hid (R2.out.below hb4 (by omega))
  have N4 := Lib.hid hN4.row
  clear hb4 hN4
  go_wp2_with fail
  refine (iAreT_c _ _ L a4 _ ps hl2 hs2 _ N4.out).mono ?_
  rintro e w5 ⟨rfl, rfl⟩
  go_wp2_with fail
  refine (toInt64SSS_c 0 w.heap.size a cap ps hl2 hs2 _ R4.out (by omega)).mono ?_
  rintro e w6 ⟨a6, rfl, hb6, hN6⟩
  have hz6 := hb6.size
  have B6 := Lib.hid (B4.out.trans (hb6.mono (by omega)))
  have N6 := Lib.hid hN6.row
  have M6 := Lib.hid (N4.out.below hb6 (Nat.le_refl _))
  clear hb6 hN6
  go_wp2_with fail
  refine (eqInt64SSS_row _ _ _ _ a4 a6 _ _ ps hl2 hs2 _ M6.out N6.out (by omega) (Nat.le_refl _)).mono ?_
  rintro e w7 ⟨rfl, hb7⟩
  have B7 := Lib.hid (B6.out.trans (hb7.mono (by omega)))
  clear hb7
  go_wp2
  go_ret
  exact ⟨rfl, B7.out⟩
end Go.Proofs.Ytngpnbdndkddlaa
