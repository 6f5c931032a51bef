/-
  'FnExactShuffleSeries' returns true at every input: the program's ShuffleSeries and its model's return the same series and code, in memory of its own, and both arguments read as before. No condition.
-/
import Derived.Test.YtjloadllckllpaaGreatDoorLawShuffleSeries
import Derived.Test.YtjloadllckllpaaGreatDoorShSer
import Derived.Test.YtjloadllckllpaaGreatDoorDoor
namespace Go.Proofs.YtjloadllckllpaaGreatDoor
open Go.ChangeShapes Go.WideShapes Go.ChangeAt Go.RowKit

theorem codeL_zero {L1 V1 L2 V2 : Int} {xs ys : List Tm} (h : codeL L1 V1 xs L2 V2 ys = 0) : serB L1 V1 xs = true ∧ serB L2 V2 ys = true ∧ L1 = L2 ∧ V1 = V2 := by
  cases h1 : serB L1 V1 xs with
  | false => rw [codeL_1 h1] at h; cases h
  | true =>
    cases h2 : serB L2 V2 ys with
    | false => rw [codeL_2 h2] at h; cases h
    | true =>
      cases h3 : alikeB L1 V1 L2 V2 with
      | false => rw [codeL_3 h1 h2 h3] at h; cases h
      | true =>
        simp only [alikeB, Bool.and_eq_true, beq_iff_eq] at h3
        exact ⟨rfl, rfl, h3.1, h3.2⟩

theorem main_ShuffleSeries (L0 V0 : Int) (a0 : Option Addr) (cap0 : Nat) (ts0 : List Tm) (hl0 : ts0.length ≤ maxLen) (hs0 : ∀ i (h : i < ts0.length), (ts0[i]).s.size ≤ maxLen) (L1 V1 : Int) (a1 : Option Addr) (cap1 : Nat) (ts1 : List Tm) (hl1 : ts1.length ≤ maxLen) (hs1 : ∀ i (h : i < ts1.length), (ts1[i]).s.size ≤ maxLen) (w : World) (hr0 : Row w a0 ts0) (hr1 : Row w a1 ts1) :
    Calls Tryz.prog 3 #[.agg #[.int .i64 L0, .int .i64 V0, .slice a0 ts0.length cap0], .agg #[.int .i64 L1, .int .i64 V1, .slice a1 ts1.length cap1]] w fun e w' => e = .returned (.bool true) ∧ Below w.heap.size w w' := by
  have law := law_ShuffleSeries L0 V0 a0 cap0 ts0 hl0 hs0 L1 V1 a1 cap1 ts1 hl1 hs1 w hr0 hr1
  by_cases hbig : ts0.length ≤ 1048576 ∧ ts1.length ≤ 1048576
  · obtain ⟨hb0, hb1⟩ := hbig
    by_cases hc : codeL L0 V0 ts0 L1 V1 ts1 = 0
    · obtain ⟨h1, h2, rfl, rfl⟩ := codeL_zero hc
      have hsh : shapeB L0 V0 = true := by unfold serB at h1; rw [Bool.and_eq_true] at h1; exact h1.1
      have hLV := shape_out hsh
      obtain ⟨D, rfl⟩ : ∃ D : Nat, L0 = D := ⟨L0.toNat, by omega⟩
      obtain ⟨N, rfl⟩ : ∃ N : Nat, V0 = N := ⟨V0.toNat, by omega⟩
      have hfew := allW_few (D := D) (by omega) (n := N) (by omega)
      have sS := fun W g1 g2 q1 q2 p1 p2 t1 t2 => sShs_2 D N g1 g2 ts0 ts1 q1 q2 hs0 hs1 h1 h2 W p1 p2 t1 t2
      have iS := fun W g1 g2 q1 q2 p1 p2 t1 t2 => iShs_2 D N g1 g2 ts0 ts1 q1 q2 hs0 hs1 h1 h2 W p1 p2 t1 t2
      cases hv : shAll D N ts1 ts0 (fun _ => none) with
      | none =>
        have hm : shsL D N ts0 ts1 = none := by unfold shsL; rw [hv]; rfl
        rw [hm] at sS iS
        exact law 0 0 3 [] (by simp) sS iS
      | some h =>
        have hm : shsL D N ts0 ts1 = some (termsOf h (allW D N)) := by unfold shsL; rw [hv]; rfl
        have hlen := termsOf_few h (allW D N)
        rw [hm] at sS iS
        exact law D N 0 (termsOf h (allW D N)) (by omega) sS iS
    · exact law 0 0 _ [] (by simp) (fun W g1 g2 q1 q2 p1 p2 t1 t2 => sShs_1 L0 V0 L1 V1 g1 g2 ts0 ts1 q1 q2 hs0 hs1 _ rfl hc W p1 p2 t1 t2) (fun W g1 g2 q1 q2 p1 p2 t1 t2 => iShs_1 L0 V0 L1 V1 g1 g2 ts0 ts1 q1 q2 hs0 hs1 _ rfl hc W p1 p2 t1 t2)
  · exact law 0 0 0 [] (by simp) (fun W g1 g2 q1 q2 _ _ _ _ => absurd ⟨q1, q2⟩ hbig) (fun W g1 g2 q1 q2 _ _ _ _ => absurd ⟨q1, q2⟩ hbig)

namespace fnExactShuffleSeries
set_option maxRecDepth 100000 in
theorem lifted (os : Os) (started : os.Started) (H : Type) (enc : TypeId × Value → H) :
    ReturnsInHanded {} Tryz.checked os 3 .any (fun w args => (Rows.fnExactShuffleSeriesSpec.pre enc Tryz.prog Tryz.f3 [] false w args ∧ laidMetH Tryz.prog Rows.fnExactShuffleSeriesRow.laid w) ∧ sizedMet enc Tryz.prog Tryz.f3 (OpenSpec.ofChange Rows.fnExactShuffleSeriesSpec) false w args)
      (Rows.fnExactShuffleSeriesSpec.post enc Tryz.prog Tryz.f3 false true false false) := by
  refine returnsInHanded_of_change_and (C := Tryz.checked) (X := fun w _ => laidMetH Tryz.prog Rows.fnExactShuffleSeriesRow.laid w) (fun _ _ _ hh h => h.of_heap hh) seatOwn started (by kernel_rfl) Tryz.func3
    (ChangeSpec.witness_shaped (enc := enc) (C := Tryz.checked) (os := os) (X := fun w _ => laidMetH Tryz.prog Rows.fnExactShuffleSeriesRow.laid w) false (World.doorLaid Tryz.prog 400 os) #[.agg #[.int .i64 0, .int .i64 0, .slice none 0 0], .agg #[.int .i64 0, .int .i64 0, .slice none 0 0]] 8 rfl (door_shaped os _) (by kernel_rfl) (by kernel_rfl) (by kernel_rfl) (door_met3 os _)) ?_
  intro W base args ds gs before hval0 hW _ _ _ _
  have hval : ∀ (j : Nat) t v, Tryz.f3.params[j]? = some t → args[j]? = some v → Value.okWide Tryz.prog W .any base t v := hval0
  have hW' := hW
  have hlt : ∀ x ∈ before, x.block < W.heap.size := fun x hx => hW.lt x hx
  obtain ⟨p, q, hA0, hV, rfl, _, _⟩ := hW
  have hA : DataW.TrodAll enc Tryz.prog W 0 (fun _ => true) true Tryz.f3.params.toList args.toList ds p := hA0
  rw [Tryz.params3] at hA hval
  obtain ⟨v0, vs0, d00, ds0, p0, q0, hargs, rfl, rfl, h0, r0⟩ := trodAll_cons hA
  obtain ⟨v1, vs1, d10, ds1, p1, q1, rfl, rfl, rfl, h1, r1⟩ := trodAll_cons r0
  obtain ⟨rfl, rfl, rfl⟩ := trodAll_nil r1
  obtain rfl : args = #[v0, v1] := by cases args; simp_all
  obtain ⟨rfl, rfl⟩ := trodVars_none hV
  have h0k := h0
  obtain ⟨L0, V0, a0, cap0, ts0, rfl, hl0, hs0, hr0⟩ := open_series (hval 0 24 v0 rfl rfl) h0
  have h1k := h1
  obtain ⟨L1, V1, a1, cap1, ts1, rfl, hl1, hs1, hr1⟩ := open_series (hval 1 24 v1 rfl rfl) h1
  clear hA0 hval0
  simp only [List.append_nil] at hW' hlt
  refine (main_ShuffleSeries L0 V0 a0 cap0 ts0 hl0 hs0 L1 V1 a1 cap1 ts1 hl1 hs1 W hr0 hr1).mono fun e W' ⟨he, hg⟩ => ?_
  subst he
  have hk0 := Below.trod seatLaid (by kernel_rfl) (of_decide_eq_true (by kernel_rfl)) h0k hg (fun x hx => hlt x (by simp [hx]))
  have hk1 := Below.trod seatLaid (by kernel_rfl) (of_decide_eq_true (by kernel_rfl)) h1k hg (fun x hx => hlt x (by simp [hx]))
  exact ⟨_, rfl, shut_reads (pa := p0 ++ p1) hW' (fun _ _ _ => (trodAll_cons_mk (shut_bool Tryz.underlying4 _) trodAll_mk0)) (by have h := (trodAll_cons_mk hk0 (trodAll_cons_mk hk1 trodAll_mk0)); simp only [List.append_nil] at h; exact h) (fun _ => rfl) hg⟩
end fnExactShuffleSeries
end Go.Proofs.YtjloadllckllpaaGreatDoor
