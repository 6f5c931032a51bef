/-
  'FnExactShuffleWords' returns true at every input for which the two functions' contracts stand: the program's ShuffleWords and its model's return the same series and code, in memory of its own.
-/
import Derived.Test.YteljpgoaaelbfaaDoorRes
namespace Go.Proofs.YteljpgoaaelbfaaDoor
open Go.RowKit

set_option maxRecDepth 100000 in
set_option maxHeartbeats 4000000 in
theorem law_ShuffleWords (n0 : Int) (n1 : Int) (s2 : ByteArray) (_hz2 : s2.size ≤ maxLen) (s3 : ByteArray) (_hz3 : s3.size ≤ maxLen) (w : World) (L' V' c' : Int) (ts' : List Tm) (hl' : ts'.length ≤ 1048576)
    (hS : ∀ W : World, Calls Tryd.prog 5 #[.int .i64 n0, .int .i64 n1, .string s2, .string s3] W (SerPost L' V' ts' c' W))
    (hI : ∀ W : World, Calls Tryd.prog 6 #[.int .i64 n0, .int .i64 n1, .string s2, .string s3] W (SerPost L' V' ts' c' W)) :
    Calls Tryd.prog 3 #[.int .i64 n0, .int .i64 n1, .string s2, .string s3] w fun e w' => e = .returned (.bool true) ∧ Below w.heap.size w w' := by
  have HSp := Lib.hid hS
  have HIm := Lib.hid hI
  clear hS hI
  by_cases hbig2 : (1048576 : Int) < (s2.size : Int)
  · go_enter Tryd.func3, Tryd.ntmps3
    go_wp2
    go_ret
    exact ⟨rfl, Below.refl _ _⟩
  by_cases hbig3 : (1048576 : Int) < (s3.size : Int)
  · go_enter Tryd.func3, Tryd.ntmps3
    go_wp2
    go_ret
    exact ⟨rfl, Below.refl _ _⟩
  go_enter Tryd.func3, Tryd.ntmps3
  go_wp2_with fail
  refine (HSp.out _).mono ?_
  rintro e w3 ⟨aw, cw, rfl, hb3, hN3⟩
  have hz3 := hb3.size
  have B3 := Lib.hid hb3
  have K3 := Lib.hid hN3.rowB
  clear hb3 hN3 HSp
  go_wp2_with fail
  refine (HIm.out _).mono ?_
  rintro e w5 ⟨ag, cg, rfl, hb5, hN5⟩
  have hz35 : w3.heap.size < w5.heap.size := by have := hb5.size; simp at this; omega
  have C5 := Lib.hid (((Cs.nil w3).box3 (.int .i64 L') (.int .i64 V') (.slice aw ts'.length cw) 24).below hb5 (Nat.le_refl _))
  have K5 := Lib.hid ((K3.out.below (below1 w3 _) (Nat.le_refl _)).below hb5 (by simp))
  have B5 := Lib.hid (B3.out.trans ((below1 w3 _).mono B3.out.size |>.trans (hb5.mono (by simp; omega))))
  have G5 := Lib.hid (hN5.mono (lo' := w3.heap.size + 1) (hi' := w5.heap.size) (by simp) (Nat.le_refl _))
  clear hb5 hN5 K3 B3
  have W0 := C5.out.get 0 rfl
  have W1 := C5.out.get 1 rfl
  have W2 := C5.out.get 2 rfl
  go_wp2_with fail
  have G5a := Lib.hid (G5.out.below (below1 w5 (.cells #[.int .i64 L', .int .i64 V', .slice ag ts'.length cg] 24)) (Nat.le_refl _))
  have K5a := Lib.hid (K5.out.below (below1 w5 (.cells #[.int .i64 L', .int .i64 V', .slice ag ts'.length cg] 24)) (by omega))
  refine (eqSeries_row L' V' ag aw cg cw ts' hl' _ (G5a.out.row) (K5a.out.row (by simp; omega))).mono ?_
  clear W0 W1 W2
  rintro e w9 ⟨rfl, hb9⟩
  have hz59 : w5.heap.size < w9.heap.size := by have := hb9.size; simp at this; omega
  have C9 := Lib.hid ((C5.out.box3 (.int .i64 L') (.int .i64 V') (.slice ag ts'.length cg) 24).below hb9 (Nat.le_refl _))
  have K9 := Lib.hid (K5a.out.below hb9 (by simp; omega))
  have G9 := Lib.hid (G5a.out.below hb9 (by simp))
  have B9 := Lib.hid (B5.out.trans ((below1 w5 _).mono B5.out.size |>.trans (hb9.mono (by simp; omega))))
  clear hb9 C5 K5 K5a G5 G5a B5
  have G0 := C9.out.get 0 rfl
  have G1 := C9.out.get 1 rfl
  have G2 := C9.out.get 2 rfl
  go_wp2_with fail
  refine (markSeries_row L' V' (w3.heap.size + 1) w5.heap.size ag _ ts' 1 (by omega) (by omega) _ G9.out).mono ?_
  clear G0 G1 G2
  rintro e w10 ⟨r10, rfl, hG10, hr10, hN10⟩
  have hz910 := hG10.size
  have C10 := Lib.hid (C9.out.grown hG10 (by
    intro p hp h
    have := hr10 p.1 h.symm
    simp only [List.mem_cons, List.not_mem_nil, or_false] at hp
    rcases hp with rfl | rfl | rfl | rfl | rfl | rfl <;> simp only at this <;> omega))
  have K10 := Lib.hid (K9.out.grown hG10 (by omega) (fun g h => by have := hr10 g h; omega))
  have M10 := Lib.hid hN10
  have B10 := Lib.hid (B9.out.trans (below_of_grown hG10 (fun g h => by have := hr10 g h; omega) (by omega)))
  clear hG10 hr10 hN10 C9 K9 G9 B9
  have G0 := C10.out.get 0 rfl
  have G1 := C10.out.get 1 rfl
  have G2 := C10.out.get 2 rfl
  have hk10 : (0 : Int) ≤ 1 + 3 * (ts'.length : Int) := by omega
  go_wp2_with fail
  refine (heldSeries_row L' V' (w3.heap.size + 1) w5.heap.size ag _ ts' 1 (by omega) (by omega) _ M10.out).mono ?_
  clear G0 G1 G2
  rintro e w12 ⟨rfl, hb12⟩
  have hz1012 := hb12.size
  have C12 := Lib.hid (C10.out.below hb12 (by omega))
  have K12 := Lib.hid (K10.out.below hb12 (by omega))
  have M12 := Lib.hid (M10.out.below hb12 (by omega))
  have B12 := Lib.hid (B10.out.trans (hb12.mono B10.out.size))
  clear hb12 C10 K10 M10 B10
  go_wp2_with fail
  refine (HIm.out _).mono ?_
  rintro e w13 ⟨ah, ch, rfl, hb13, hN13⟩
  have hz1213 := hb13.size
  have C13 := Lib.hid (C12.out.below hb13 (by omega))
  have K13 := Lib.hid (K12.out.below hb13 (by omega))
  have M13 := Lib.hid (M12.out.below hb13 (by omega))
  have B13 := Lib.hid (B12.out.trans (hb13.mono B12.out.size))
  have H13 := Lib.hid hN13
  clear hb13 hN13 C12 K12 M12 B12
  have W0 := C13.out.get 3 rfl
  have W1 := C13.out.get 4 rfl
  have W2 := C13.out.get 5 rfl
  have hz313 : w3.heap.size < w13.heap.size := by omega
  go_wp2_with fail
  have H13a := Lib.hid (H13.out.row.below (below1 w13 (.cells #[.int .i64 L', .int .i64 V', .slice ah ts'.length ch] 24)))
  have K13a := Lib.hid (K13.out.below (below1 w13 (.cells #[.int .i64 L', .int .i64 V', .slice ah ts'.length ch] 24)) (by omega))
  refine (eqSeries_row L' V' ah aw ch cw ts' hl' _ H13a.out (K13a.out.row (by simp; omega))).mono ?_
  clear W0 W1 W2 H13a K13a
  rintro e w14 ⟨rfl, hb14⟩
  have hz1314 : w13.heap.size < w14.heap.size := by have := hb14.size; simp at this; omega
  have C14 := Lib.hid ((C13.out.alloc (.cells #[.int .i64 L', .int .i64 V', .slice ah ts'.length ch] 24)).below hb14 (Nat.le_refl _))
  have M14 := Lib.hid ((M13.out.below (below1 w13 _) (by omega)).below hb14 (by simp; omega))
  have B14 := Lib.hid (B13.out.trans ((below1 w13 _).mono B13.out.size |>.trans (hb14.mono (by have := B13.out.size; simp; omega))))
  clear hb14 C13 K13 M13 B13 H13
  have G0 := C14.out.get 0 rfl
  have G1 := C14.out.get 1 rfl
  have G2 := C14.out.get 2 rfl
  go_wp2_with fail
  refine (heldSeries_row L' V' (w3.heap.size + 1) w5.heap.size ag _ ts' 1 (by omega) (by omega) _ M14.out).mono ?_
  clear G0 G1 G2
  rintro e w15 ⟨rfl, hb15⟩
  have B15 := Lib.hid (B14.out.trans (hb15.mono B14.out.size))
  clear hb15
  go_wp2
  go_ret
  exact ⟨rfl, B15.out⟩
end Go.Proofs.YteljpgoaaelbfaaDoor
