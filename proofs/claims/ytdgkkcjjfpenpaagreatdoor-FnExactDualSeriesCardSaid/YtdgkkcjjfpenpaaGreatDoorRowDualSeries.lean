/-
  'FnExactDualSeries' returns true at every input for which the two functions' contracts stand: the program's DualSeries and its model's return the same series and code, in memory of its own.
  'FnExactDualSeries' returns true at every input: the program's DualSeries and its model's return the same series and code, in memory of its own. No condition.
-/
import Derived.Test.YtdgkkcjjfpenpaaGreatDoorRes
import Derived.Test.YtdgkkcjjfpenpaaGreatDoorDulI
import Derived.Test.YtdgkkcjjfpenpaaGreatDoorDulS
import Derived.Test.YtdgkkcjjfpenpaaGreatDoorOpenR
import Derived.Test.YtdgkkcjjfpenpaaGreatDoorDoor
namespace Go.Proofs.YtdgkkcjjfpenpaaGreatDoor
open Go.RowKit

set_option maxRecDepth 100000 in
set_option maxHeartbeats 4000000 in
theorem law_DualSeries (n0 : Int) (n1 : Int) (s2 : ByteArray) (_hz2 : s2.size ≤ maxLen) (w : World) (L' V' c' : Int) (ts' : List Tm) (hl' : ts'.length ≤ 1048576)
    (hS : ∀ W : World, Calls Tryz.prog 4 #[.int .i64 n0, .int .i64 n1, .string s2] W (SerPost L' V' ts' c' W))
    (hI : ∀ W : World, Calls Tryz.prog 5 #[.int .i64 n0, .int .i64 n1, .string s2] W (SerPost L' V' ts' c' W)) :
    Calls Tryz.prog 3 #[.int .i64 n0, .int .i64 n1, .string s2] w fun e w' => e = .returned (.bool true) ∧ Below w.heap.size w w' := by
  have HSp := Lib.hid hS
  have HIm := Lib.hid hI
  clear hS hI
  by_cases hbig2 : (1048576 : Int) < (s2.size : Int)
  · go_enter Tryz.func3, Tryz.ntmps3
    go_wp2
    go_ret
    exact ⟨rfl, Below.refl _ _⟩
  go_enter Tryz.func3, Tryz.ntmps3
  go_wp2_with fail
  refine (HSp.out _).mono ?_
  rintro e w3 ⟨aw, cw, rfl, hb3, hN3⟩
  have hz3 := hb3.size
  have B3 := Lib.hid hb3
  have K3 := Lib.hid hN3.rowB
  clear hb3 hN3 HSp
  go_wp2_with fail
  refine (HIm.out _).mono ?_
  rintro e w5 ⟨ag, cg, rfl, hb5, hN5⟩
  have hz35 : w3.heap.size < w5.heap.size := by have := hb5.size; simp at this; omega
  have C5 := Lib.hid (((Cs.nil w3).box3 (.int .i64 L') (.int .i64 V') (.slice aw ts'.length cw) 24).below hb5 (Nat.le_refl _))
  have K5 := Lib.hid ((K3.out.below (below1 w3 _) (Nat.le_refl _)).below hb5 (by simp))
  have B5 := Lib.hid (B3.out.trans ((below1 w3 _).mono B3.out.size |>.trans (hb5.mono (by simp; omega))))
  have G5 := Lib.hid (hN5.mono (lo' := w3.heap.size + 1) (hi' := w5.heap.size) (by simp) (Nat.le_refl _))
  clear hb5 hN5 K3 B3
  have W0 := C5.out.get 0 rfl
  have W1 := C5.out.get 1 rfl
  have W2 := C5.out.get 2 rfl
  go_wp2_with fail
  have G5a := Lib.hid (G5.out.below (below1 w5 (.cells #[.int .i64 L', .int .i64 V', .slice ag ts'.length cg] 24)) (Nat.le_refl _))
  have K5a := Lib.hid (K5.out.below (below1 w5 (.cells #[.int .i64 L', .int .i64 V', .slice ag ts'.length cg] 24)) (by omega))
  refine (eqSeries_row L' V' ag aw cg cw ts' hl' _ (G5a.out.row) (K5a.out.row (by simp; omega))).mono ?_
  clear W0 W1 W2
  rintro e w9 ⟨rfl, hb9⟩
  have hz59 : w5.heap.size < w9.heap.size := by have := hb9.size; simp at this; omega
  have C9 := Lib.hid ((C5.out.box3 (.int .i64 L') (.int .i64 V') (.slice ag ts'.length cg) 24).below hb9 (Nat.le_refl _))
  have K9 := Lib.hid (K5a.out.below hb9 (by simp; omega))
  have G9 := Lib.hid (G5a.out.below hb9 (by simp))
  have B9 := Lib.hid (B5.out.trans ((below1 w5 _).mono B5.out.size |>.trans (hb9.mono (by simp; omega))))
  clear hb9 C5 K5 K5a G5 G5a B5
  have G0 := C9.out.get 0 rfl
  have G1 := C9.out.get 1 rfl
  have G2 := C9.out.get 2 rfl
  go_wp2_with fail
  refine (markSeries_row L' V' (w3.heap.size + 1) w5.heap.size ag _ ts' 1 (by omega) (by omega) _ G9.out).mono ?_
  clear G0 G1 G2
  rintro e w10 ⟨r10, rfl, hG10, hr10, hN10⟩
  have hz910 := hG10.size
  have C10 := Lib.hid (C9.out.grown hG10 (by
    intro p hp h
    have := hr10 p.1 h.symm
    simp only [List.mem_cons, List.not_mem_nil, or_false] at hp
    rcases hp with rfl | rfl | rfl | rfl | rfl | rfl <;> simp only at this <;> omega))
  have K10 := Lib.hid (K9.out.grown hG10 (by omega) (fun g h => by have := hr10 g h; omega))
  have M10 := Lib.hid hN10
  have B10 := Lib.hid (B9.out.trans (below_of_grown hG10 (fun g h => by have := hr10 g h; omega) (by omega)))
  clear hG10 hr10 hN10 C9 K9 G9 B9
  have G0 := C10.out.get 0 rfl
  have G1 := C10.out.get 1 rfl
  have G2 := C10.out.get 2 rfl
  have hk10 : (0 : Int) ≤ 1 + 3 * (ts'.length : Int) := by omega
  go_wp2_with fail
  refine (heldSeries_row L' V' (w3.heap.size + 1) w5.heap.size ag _ ts' 1 (by omega) (by omega) _ M10.out).mono ?_
  clear G0 G1 G2
  rintro e w12 ⟨rfl, hb12⟩
  have hz1012 := hb12.size
  have C12 := Lib.hid (C10.out.below hb12 (by omega))
  have K12 := Lib.hid (K10.out.below hb12 (by omega))
  have M12 := Lib.hid (M10.out.below hb12 (by omega))
  have B12 := Lib.hid (B10.out.trans (hb12.mono B10.out.size))
  clear hb12 C10 K10 M10 B10
  go_wp2_with fail
  refine (HIm.out _).mono ?_
  rintro e w13 ⟨ah, ch, rfl, hb13, hN13⟩
  have hz1213 := hb13.size
  have C13 := Lib.hid (C12.out.below hb13 (by omega))
  have K13 := Lib.hid (K12.out.below hb13 (by omega))
  have M13 := Lib.hid (M12.out.below hb13 (by omega))
  have B13 := Lib.hid (B12.out.trans (hb13.mono B12.out.size))
  have H13 := Lib.hid hN13
  clear hb13 hN13 C12 K12 M12 B12
  have W0 := C13.out.get 3 rfl
  have W1 := C13.out.get 4 rfl
  have W2 := C13.out.get 5 rfl
  have hz313 : w3.heap.size < w13.heap.size := by omega
  go_wp2_with fail
  have H13a := Lib.hid (H13.out.row.below (below1 w13 (.cells #[.int .i64 L', .int .i64 V', .slice ah ts'.length ch] 24)))
  have K13a := Lib.hid (K13.out.below (below1 w13 (.cells #[.int .i64 L', .int .i64 V', .slice ah ts'.length ch] 24)) (by omega))
  refine (eqSeries_row L' V' ah aw ch cw ts' hl' _ H13a.out (K13a.out.row (by simp; omega))).mono ?_
  clear W0 W1 W2 H13a K13a
  rintro e w14 ⟨rfl, hb14⟩
  have hz1314 : w13.heap.size < w14.heap.size := by have := hb14.size; simp at this; omega
  have C14 := Lib.hid ((C13.out.alloc (.cells #[.int .i64 L', .int .i64 V', .slice ah ts'.length ch] 24)).below hb14 (Nat.le_refl _))
  have M14 := Lib.hid ((M13.out.below (below1 w13 _) (by omega)).below hb14 (by simp; omega))
  have B14 := Lib.hid (B13.out.trans ((below1 w13 _).mono B13.out.size |>.trans (hb14.mono (by have := B13.out.size; simp; omega))))
  clear hb14 C13 K13 M13 B13 H13
  have G0 := C14.out.get 0 rfl
  have G1 := C14.out.get 1 rfl
  have G2 := C14.out.get 2 rfl
  go_wp2_with fail
  refine (heldSeries_row L' V' (w3.heap.size + 1) w5.heap.size ag _ ts' 1 (by omega) (by omega) _ M14.out).mono ?_
  clear G0 G1 G2
  rintro e w15 ⟨rfl, hb15⟩
  have B15 := Lib.hid (B14.out.trans (hb15.mono B14.out.size))
  clear hb15
  go_wp2
  go_ret
  exact ⟨rfl, B15.out⟩
end Go.Proofs.YtdgkkcjjfpenpaaGreatDoor

namespace Go.Proofs.YtdgkkcjjfpenpaaGreatDoor
open Go.ChangeShapes Go.WideShapes Go.ChangeAt Go.RowKit

set_option maxRecDepth 100000 in
set_option maxHeartbeats 4000000 in
theorem iDual_1m (d n : Int) (s : ByteArray) (hsm : s.size ≤ maxLen) (h : (shapeB d n && (decide ((s.size : Int) ≤ n) && wordB d s.data.toList)) = false) (w : World) :
    Calls Tryz.prog 5 #[.int .i64 d, .int .i64 n, .string s] w (SerPost 0 0 [] 2 w) := by
  cases h1 : shapeB d n with
  | false =>
    have H1 := Lib.hid h1
    clear h h1
    go_enter Tryz.func5, Tryz.ntmps5
    go_wp2_with (go_at_call 12; refine (isShape_c _ _ _).mono ?_; rw [H1.out]; rintro e w' ⟨rfl, rfl⟩)
    exact bodyPost_ret (v := .tuple #[.agg #[.int .i64 0, .int .i64 0, .slice none 0 0], .int .i64 2]) (by simp [results, Tryz.results5, go_sem]) rfl (SerPost.err 2 rfl (by go_grown))
  | true =>
    have hd := shape_out h1
    have H1 := Lib.hid h1
    rw [h1, Bool.true_and] at h
    have H2 := Lib.hid h
    clear h h1
    go_enter Tryz.func5, Tryz.ntmps5
    go_wp2_with (first | (go_at_call 12; refine (isShape_c _ _ _).mono ?_; rw [H1.out]; rintro e w' ⟨rfl, rfl⟩) | (go_at_call 13; refine (isWord_c _ _ _ hsm _).mono ?_; rw [H2.out]; rintro e w' ⟨rfl, rfl⟩))
    exact bodyPost_ret (v := .tuple #[.agg #[.int .i64 0, .int .i64 0, .slice none 0 0], .int .i64 2]) (by simp [results, Tryz.results5, go_sem]) rfl (SerPost.err 2 rfl (by go_grown))
open Go.ChangeMaps (open_string shut_string)
theorem main_DualSeries (L V : Int) (s : ByteArray) (hs : s.size ≤ maxLen) (w : World) :
    Calls Tryz.prog 3 #[.int .i64 L, .int .i64 V, .string s] w fun e w' => e = .returned (.bool true) ∧ Below w.heap.size w w' := by
  cases h : (shapeB L V && (decide ((s.size : Int) ≤ V) && wordB L s.data.toList)) with
  | false => exact law_DualSeries L V s hs w 0 0 2 [] (by simp) (fun W => sDual_1 L V s hs h W) (fun W => iDual_1m L V s hs h W)
  | true =>
    simp only [Bool.and_eq_true, decide_eq_true_eq] at h
    obtain ⟨h1, h2, h3⟩ := h
    have hd := shape_out h1
    obtain ⟨D, rfl⟩ := Int.eq_ofNat_of_zero_le (show 0 ≤ L by omega)
    obtain ⟨N, rfl⟩ := Int.eq_ofNat_of_zero_le (show 0 ≤ V by omega)
    obtain ⟨o, ho⟩ := dual_is D N s.size s (Nat.le_refl _)
    have hz : s.size ≤ N := by omega
    cases o with
    | none => exact law_DualSeries D N s hs w 0 0 3 [] (by simp) (fun W => sDual_2 D N s none ho h1 hz h3 W) (fun W => iDual_2 D N s none ho h1 hz h3 W)
    | some ts => exact law_DualSeries D N s hs w D N 0 ts (by have := ser_few (ho.good (by omega) (by omega) h1 h3 hz ts rfl).1; omega) (fun W => sDual_2 D N s (some ts) ho h1 hz h3 W) (fun W => iDual_2 D N s (some ts) ho h1 hz h3 W)

namespace fnExactDualSeries
set_option maxRecDepth 100000 in
theorem lifted (os : Os) (started : os.Started) (H : Type) (enc : TypeId × Value → H) :
    ReturnsInHanded {} Tryz.checked os 3 .any (fun w args => (Rows.fnExactDualSeriesSpec.pre enc Tryz.prog Tryz.f3 [] false w args ∧ laidMetH Tryz.prog Rows.fnExactDualSeriesRow.laid w) ∧ sizedMet enc Tryz.prog Tryz.f3 (OpenSpec.ofChange Rows.fnExactDualSeriesSpec) false w args)
      (Rows.fnExactDualSeriesSpec.post enc Tryz.prog Tryz.f3 false true false false) := by
  refine returnsInHanded_of_change_and (C := Tryz.checked) (X := fun w _ => laidMetH Tryz.prog Rows.fnExactDualSeriesRow.laid w) (fun _ _ _ hh h => h.of_heap hh) seatOwn started (by kernel_rfl) Tryz.func3
    (ChangeSpec.witness_shaped (enc := enc) (C := Tryz.checked) (os := os) (X := fun w _ => laidMetH Tryz.prog Rows.fnExactDualSeriesRow.laid w) false (World.doorLaid Tryz.prog 400 os) #[.int .i64 0, .int .i64 0, .string ByteArray.empty] 8 rfl (door_shaped os _) (by kernel_rfl) (by kernel_rfl) (by kernel_rfl) (door_met3 os _)) ?_
  intro W base args ds gs before hval0 hW _ _ _ _
  have hval : ∀ (j : Nat) t v, Tryz.f3.params[j]? = some t → args[j]? = some v → Value.okWide Tryz.prog W .any base t v := hval0
  have hW' := hW
  have hlt : ∀ x ∈ before, x.block < W.heap.size := fun x hx => hW.lt x hx
  obtain ⟨p, q, hA0, hV, rfl, _, _⟩ := hW
  have hA : DataW.TrodAll enc Tryz.prog W 0 (fun _ => true) true Tryz.f3.params.toList args.toList ds p := hA0
  rw [Tryz.params3] at hA hval
  obtain ⟨v0, vs0, d00, ds0, p0, q0, hargs, rfl, rfl, h0, r0⟩ := trodAll_cons hA
  obtain ⟨v1, vs1, d10, ds1, p1, q1, rfl, rfl, rfl, h1, r1⟩ := trodAll_cons r0
  obtain ⟨v2, vs2, d20, ds2, p2, q2, rfl, rfl, rfl, h2, r2⟩ := trodAll_cons r1
  obtain ⟨rfl, rfl, rfl⟩ := trodAll_nil r2
  obtain rfl : args = #[v0, v1, v2] := by cases args; simp_all
  obtain ⟨rfl, rfl⟩ := trodVars_none hV
  obtain ⟨n0, rfl, rfl, rfl, wf0⟩ := open_int Tryz.underlying2 (hval 0 2 v0 rfl rfl) h0
  obtain ⟨n1, rfl, rfl, rfl, wf1⟩ := open_int Tryz.underlying2 (hval 1 2 v1 rfl rfl) h1
  obtain ⟨s2, rfl, rfl, rfl, wf2⟩ := open_string Tryz.underlying9 (hval 2 9 v2 rfl rfl) h2
  clear hA0 hval0
  simp only [List.append_nil] at hW' hlt
  refine (main_DualSeries n0 n1 s2 wf2 W ).mono fun e W' ⟨he, hg⟩ => ?_
  subst he
  exact ⟨_, rfl, shut_reads (pa := []) hW' (fun _ _ _ => (trodAll_cons_mk (shut_bool Tryz.underlying4 _) trodAll_mk0)) (trodAll_cons_mk (shut_int Tryz.underlying2 wf0) (trodAll_cons_mk (shut_int Tryz.underlying2 wf1) (trodAll_cons_mk (shut_string Tryz.underlying9 wf2) trodAll_mk0))) (fun _ => rfl) hg⟩
end fnExactDualSeries
end Go.Proofs.YtdgkkcjjfpenpaaGreatDoor
