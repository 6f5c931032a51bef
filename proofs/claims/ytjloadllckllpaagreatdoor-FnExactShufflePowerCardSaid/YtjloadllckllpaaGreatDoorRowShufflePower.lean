/-
  'FnExactShufflePower' returns true at every input: the program's ShufflePower and its model's return the same series and code, in memory of its own, and the argument reads as before. No condition.
-/
import Derived.Test.YtjloadllckllpaaGreatDoorLawShufflePower
import Derived.Test.YtjloadllckllpaaGreatDoorShPw
import Derived.Test.YtjloadllckllpaaGreatDoorDoor
namespace Go.Proofs.YtjloadllckllpaaGreatDoor
open Go.ChangeShapes Go.WideShapes Go.ChangeAt Go.RowKit

open Go.ChangeMaps (open_string shut_string)

theorem main_ShufflePower (L V : Int) (a : Option Addr) (cap : Nat) (ts : List Tm) (hl : ts.length ≤ maxLen) (hs : ∀ i (h : i < ts.length), (ts[i]).s.size ≤ maxLen) (K : Int) (w : World) (hr : Row w a ts) :
    Calls Tryz.prog 5 #[.agg #[.int .i64 L, .int .i64 V, .slice a ts.length cap], .int .i64 K] w fun e w' => e = .returned (.bool true) ∧ Below w.heap.size w w' := by
  have law := law_ShufflePower L V a cap ts hl hs K w hr
  by_cases hbig : ts.length ≤ 1048576
  · cases h1 : serB L V ts with
    | false => exact law 0 0 1 [] (by simp) (fun W g q hb ht => sShp_1 L V K g ts q hs h1 W hb ht) (fun W g q hb ht => iShp_1 L V K g ts q hs h1 W hb ht)
    | true =>
      cases h2 : inB K 0 8 with
      | false => exact law 0 0 2 [] (by simp) (fun W g q hb ht => sShp_2 L V K g ts q hs h1 h2 W hb ht) (fun W g q hb ht => iShp_2 L V K g ts q hs h1 h2 W hb ht)
      | true =>
        have hK := inB_true h2
        have hsh : shapeB L V = true := by unfold serB at h1; rw [Bool.and_eq_true] at h1; exact h1.1
        have hLV := shape_out hsh
        obtain ⟨D, rfl⟩ : ∃ D : Nat, L = D := ⟨L.toNat, by omega⟩
        obtain ⟨N, rfl⟩ : ∃ N : Nat, V = N := ⟨V.toNat, by omega⟩
        obtain ⟨k, rfl⟩ : ∃ k : Nat, K = k := ⟨K.toNat, by omega⟩
        have hfew := allW_few (D := D) (by omega) (n := N) (by omega)
        have HS := fun W g q hb ht => sShp_3 D N k g ts q hs h1 (by omega) W hb ht
        have HI := fun W g q hb ht => iShp_3 D N k g ts q hs h1 (by omega) W hb ht
        cases hv : shpV D N ts k with
        | none =>
          rw [hv] at HS HI
          exact law 0 0 3 [] (by simp) (fun W g q hb ht => HS W g q hb ht) (fun W g q hb ht => HI W g q hb ht)
        | some h =>
          rw [hv] at HS HI
          have hlen := termsOf_few h (allW D N)
          exact law D N 0 (termsOf h (allW D N)) (by omega) (fun W g q hb ht => HS W g q hb ht) (fun W g q hb ht => HI W g q hb ht)
  · exact law 0 0 0 [] (by simp) (fun W g q _ _ => absurd q hbig) (fun W g q _ _ => absurd q hbig)

namespace fnExactShufflePower
set_option maxRecDepth 100000 in
theorem lifted (os : Os) (started : os.Started) (H : Type) (enc : TypeId × Value → H) :
    ReturnsInHanded {} Tryz.checked os 5 .any (fun w args => (Rows.fnExactShufflePowerSpec.pre enc Tryz.prog Tryz.f5 [] false w args ∧ laidMetH Tryz.prog Rows.fnExactShufflePowerRow.laid w) ∧ sizedMet enc Tryz.prog Tryz.f5 (OpenSpec.ofChange Rows.fnExactShufflePowerSpec) false w args)
      (Rows.fnExactShufflePowerSpec.post enc Tryz.prog Tryz.f5 false true false false) := by
  refine returnsInHanded_of_change_and (C := Tryz.checked) (X := fun w _ => laidMetH Tryz.prog Rows.fnExactShufflePowerRow.laid w) (fun _ _ _ hh h => h.of_heap hh) seatOwn started (by kernel_rfl) Tryz.func5
    (ChangeSpec.witness_shaped (enc := enc) (C := Tryz.checked) (os := os) (X := fun w _ => laidMetH Tryz.prog Rows.fnExactShufflePowerRow.laid w) false (World.doorLaid Tryz.prog 400 os) #[.agg #[.int .i64 0, .int .i64 0, .slice none 0 0], .int .i64 0] 8 rfl (door_shaped os _) (by kernel_rfl) (by kernel_rfl) (by kernel_rfl) (door_met3 os _)) ?_
  intro W base args ds gs before hval0 hW _ _ _ _
  have hval : ∀ (j : Nat) t v, Tryz.f5.params[j]? = some t → args[j]? = some v → Value.okWide Tryz.prog W .any base t v := hval0
  have hW' := hW
  have hlt : ∀ x ∈ before, x.block < W.heap.size := fun x hx => hW.lt x hx
  obtain ⟨p, q, hA0, hV, rfl, _, _⟩ := hW
  have hA : DataW.TrodAll enc Tryz.prog W 0 (fun _ => true) true Tryz.f5.params.toList args.toList ds p := hA0
  rw [Tryz.params5] at hA hval
  obtain ⟨v0, vs0, d00, ds0, p0, q0, hargs, rfl, rfl, h0, r0⟩ := trodAll_cons hA
  obtain ⟨v1, vs1, d10, ds1, p1, q1, rfl, rfl, rfl, h1, r1⟩ := trodAll_cons r0
  obtain ⟨rfl, rfl, rfl⟩ := trodAll_nil r1
  obtain rfl : args = #[v0, v1] := by cases args; simp_all
  obtain ⟨rfl, rfl⟩ := trodVars_none hV
  have h0k := h0
  obtain ⟨L0, V0, a0, cap0, ts0, rfl, hl0, hs0, hr0⟩ := open_series (hval 0 24 v0 rfl rfl) h0
  obtain ⟨n1, rfl, rfl, rfl, wf1⟩ := open_int Tryz.underlying2 (hval 1 2 v1 rfl rfl) h1
  clear hA0 hval0
  simp only [List.append_nil] at hW' hlt
  refine (main_ShufflePower L0 V0 a0 cap0 ts0 hl0 hs0 n1 W hr0).mono fun e W' ⟨he, hg⟩ => ?_
  subst he
  have hk0 := Below.trod seatLaid (by kernel_rfl) (of_decide_eq_true (by kernel_rfl)) h0k hg (fun x hx => hlt x (by simp [hx]))
  exact ⟨_, rfl, shut_reads (pa := p0) hW' (fun _ _ _ => (trodAll_cons_mk (shut_bool Tryz.underlying4 _) trodAll_mk0)) (by have h := (trodAll_cons_mk hk0 (trodAll_cons_mk (shut_int Tryz.underlying2 wf1) trodAll_mk0)); simp only [List.append_nil] at h; exact h) (fun _ => rfl) hg⟩
end fnExactShufflePower
end Go.Proofs.YtjloadllckllpaaGreatDoor
