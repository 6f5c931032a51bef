/-
  'FnExactFractionText' returns true at every input: the program's FractionText and its model's return the same text and code. The row's own condition: the library's table of powers of ten holds what its text lays.
-/
import Derived.Test.YtimakdejccaanaaDoorFtx
import Derived.Test.YtimakdejccaanaaDoorDoor
namespace Go.Proofs.YtimakdejccaanaaDoor
open Go.ChangeShapes Go.WideShapes Go.ChangeAt Go.RowKit
open Go.ChangeMaps (open_string shut_string)

theorem gT_pow10 : Tryd.prog.globalNamed "internal/strconv.uint64pow10" = some 0 := by kernel_rfl
theorem gTType_pow10 : (Tryd.prog.globals[0]?).map (·.type) = some 45 := by kernel_rfl
theorem cells_u64 : Tryd.prog.cellsOf 38 = 1 := by kernel_rfl
theorem cells_pow10 : Tryd.prog.cellsOf 45 = 20 := by kernel_rfl
theorem tabW_of_laid {w : World} (h : laidMetH Tryd.prog Rows.fnExactFractionTextRow.laid w) : TabW w := by
  have h1 := h.filter (fun x => x.1 == "internal/strconv.uint64pow10")
  have e : (Rows.fnExactFractionTextRow.laid.filter fun x => x.1 == "internal/strconv.uint64pow10") = [("internal/strconv.uint64pow10", Lib.tabData .u64 Lib.pow10Tab)] := by kernel_rfl
  rw [e, Go.MakeChecks.laidMetH_plain _ _ _ (by kernel_rfl)] at h1
  exact Lib.tabIs_of_head gT_pow10 gTType_pow10 Tryd.underlying45 Tryd.underlying38 cells_u64 cells_pow10 h1

theorem main_FractionText (n d : Int) (w : World) (htab : TabW w) :
    Calls Tryd.prog 3 #[.agg #[.int .i64 n, .int .i64 d]] w fun e w' => e = .returned (.bool true) ∧ Below w.heap.size w w' := by
  have hc : ∃ (t : ByteArray) (c : Int), (∀ w, Calls Tryd.prog 4 #[.agg #[.int .i64 n, .int .i64 d]] w (TextPostF t c w)) ∧ (∀ w, TabW w → Calls Tryd.prog 6 #[.agg #[.int .i64 n, .int .i64 d]] w (TextPostF t c w)) := by
    cases h : isF n d with
    | false => exact ⟨_, _, sFText_1 n d h, fun w _ => iFText_1 n d h w⟩
    | true => exact ⟨_, _, sFText_2 n d h, iFText_2 n d h⟩
  obtain ⟨t, c, hS, hI⟩ := hc
  have HS := Lib.hid hS
  have HI := Lib.hid hI
  have HT := Lib.hid htab
  have hst : (t.toList != t.toList) = false := by simp
  clear hS hI htab
  go_enter Tryd.func3, Tryd.ntmps3
  go_wp2_with fail
  refine (toFraction_c _ _ _).mono ?_
  rintro e w1 ⟨rfl, hb⟩
  have hB1 := hb
  simp only [World.size_alloc] at hB1
  clear hb
  go_wp2_with fail
  refine (HS.out _).mono ?_
  rintro e w2 ⟨rfl, hb⟩
  have hB2 := below_step hB1 hb (by simp)
  obtain ⟨hc, hf⟩ := bcellB hB2
  clear hb
  go_wp2_with fail
  refine (toFraction_c _ _ _).mono ?_
  rintro e w3 ⟨rfl, hb⟩
  have hB3 := below_step hB2 hb (by simp)
  clear hb hc hf
  go_wp2_with fail
  refine (HI.out _ (HT.out.below ((below1 w _).trans (hB3.mono (by omega))))).mono ?_
  rintro e w4 ⟨rfl, hb⟩
  have hB4 := below_step hB3 hb (by simp)
  clear hb hB1 hB2 hB3
  go_wp2
  go_ret
  exact ⟨rfl, (below1 w _).trans (hB4.mono (by omega))⟩

namespace fnExactFractionText
set_option maxRecDepth 100000 in
theorem lifted (os : Os) (started : os.Started) (H : Type) (enc : TypeId × Value → H) :
    ReturnsInHanded {} Tryd.checked os 3 .any (fun w args => (Rows.fnExactFractionTextSpec.pre enc Tryd.prog Tryd.f3 [] false w args ∧ laidMetH Tryd.prog Rows.fnExactFractionTextRow.laid w) ∧ sizedMet enc Tryd.prog Tryd.f3 (OpenSpec.ofChange Rows.fnExactFractionTextSpec) false w args)
      (Rows.fnExactFractionTextSpec.post enc Tryd.prog Tryd.f3 false true false false) := by
  refine returnsInHanded_of_change_and (C := Tryd.checked) (X := fun w _ => laidMetH Tryd.prog Rows.fnExactFractionTextRow.laid w) (fun _ _ _ hh h => h.of_heap hh) seatOwn started (by kernel_rfl) Tryd.func3
    (ChangeSpec.witness_shaped (enc := enc) (C := Tryd.checked) (os := os) (X := fun w _ => laidMetH Tryd.prog Rows.fnExactFractionTextRow.laid w) false (World.doorLaid Tryd.prog 400 os) #[.agg #[.int .i64 0, .int .i64 0]] 8 rfl (door_shaped os _) (by kernel_rfl) (by kernel_rfl) (by kernel_rfl) (door_met3 os _)) ?_
  intro W base args ds gs before hval0 hW hX1 hX2 hX3 hX4
  have hval : ∀ (j : Nat) t v, Tryd.f3.params[j]? = some t → args[j]? = some v → Value.okWide Tryd.prog W .any base t v := hval0
  have hW' := hW
  have hlt : ∀ x ∈ before, x.block < W.heap.size := fun x hx => hW.lt x hx
  obtain ⟨p, q, hA0, hV, rfl, _, _⟩ := hW
  have hA : DataW.TrodAll enc Tryd.prog W 0 (fun _ => true) true Tryd.f3.params.toList args.toList ds p := hA0
  rw [Tryd.params3] at hA hval
  obtain ⟨v0, vs0, d00, ds0, p0, q0, hargs, rfl, rfl, h0, r0⟩ := trodAll_cons hA
  obtain ⟨rfl, rfl, rfl⟩ := trodAll_nil r0
  obtain rfl : args = #[v0] := by cases args; simp_all
  obtain ⟨rfl, rfl⟩ := trodVars_none hV
  obtain ⟨c0, e0, y0, z0, m0, rfl, rfl, rfl, hy0, hz0⟩ := Joins.open_agg2 Tryd.underlying23 (by kernel_rfl) lawsFraction_cells (hval 0 23 v0 rfl rfl) h0
  obtain ⟨n0, q00, rfl, wn0⟩ := DataW.trod_int Tryd.underlying2 hy0
  obtain ⟨d0, q10, rfl, wd0⟩ := DataW.trod_int Tryd.underlying2 hz0
  simp at q00 q10
  subst q00 q10
  have HTAB : TabW W := tabW_of_laid (by first | exact hX1 | exact hX2 | exact hX3 | exact hX4)
  clear hA0 hval0 hX1 hX2 hX3 hX4
  simp only [List.append_nil, List.nil_append] at hW' hlt
  refine (main_FractionText n0 d0 W HTAB ).mono fun e W' ⟨he, hg⟩ => ?_
  subst he
  exact ⟨_, rfl, shut_below (pa := []) hW' (fun _ _ _ => (trodAll_cons_mk (shut_bool Tryd.underlying4 _) trodAll_mk0)) (fun sp _ => (trodAll_cons_mk (shut_frac wn0 wd0 _ _ _ _) trodAll_mk0)) (fun _ => rfl)
    hg (ok_one (by kernel_rfl) rfl (okWide_bool_mk Tryd.underlying4 _))⟩
end fnExactFractionText
end Go.Proofs.YtimakdejccaanaaDoor
