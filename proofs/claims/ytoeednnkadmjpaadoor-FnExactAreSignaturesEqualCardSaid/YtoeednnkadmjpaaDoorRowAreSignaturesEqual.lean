/-
  'FnExactAreSignaturesEqual' returns true at every input: the program's AreSignaturesEqual and its model's agree in bool and code, and the paths read as before. No condition.
-/
import Derived.Test.YtoeednnkadmjpaaDoorLawAreSignaturesEqual
import Derived.Test.YtoeednnkadmjpaaDoorAreS
import Derived.Test.YtoeednnkadmjpaaDoorOpenP
import Derived.Test.YtoeednnkadmjpaaDoorDoor
namespace Go.Proofs.YtoeednnkadmjpaaDoor
open Go.ChangeShapes Go.WideShapes Go.ChangeAt Go.RowKit

theorem main_AreSignaturesEqual (n0 n1 : Int) (a2 : Option Addr) (cap2 : Nat) (ps2 : List (List Int)) (hl2 : ps2.length ≤ maxLen) (hs2 : ∀ i (h : i < ps2.length), (ps2[i]).length ≤ maxLen) (a3 : Option Addr) (cap3 : Nat) (ps3 : List (List Int)) (hl3 : ps3.length ≤ maxLen) (hs3 : ∀ i (h : i < ps3.length), (ps3[i]).length ≤ maxLen) (w : World) (hr2 : PRow 0 w.heap.size w a2 ps2) (hr3 : PRow 0 w.heap.size w a3 ps3) :
    Calls Tryd.prog 9 #[.int .i64 n0, .int .i64 n1, .slice a2 ps2.length cap2, .slice a3 ps3.length cap3] w fun e w' => e = .returned (.bool true) ∧ Below w.heap.size w w' := by
  have law := law_AreSignaturesEqual n0 n1 a2 cap2 ps2 hl2 hs2 a3 cap3 ps3 hl3 hs3 w hr2 hr3
  by_cases hc : codeP2 n0 n1 ps2 ps3 = 0
  · have hp : pathB n0 ps2 = true := by
      cases h : pathB n0 ps2 with
      | true => rfl
      | false => rw [codeP2_1 h] at hc; cases hc
    have hp3 : pathB n0 ps3 = true := by
      cases h : pathB n0 ps3 with
      | true => rfl
      | false => rw [codeP2_2 hp h] at hc; cases hc
    have hsh : shapeB n0 n1 = true := by
      cases h : shapeB n0 n1 with
      | true => rfl
      | false => rw [codeP2_3 hp hp3 h] at hc; cases hc
    have hLV := shape_out hsh
    obtain ⟨D, rfl⟩ : ∃ D : Nat, n0 = D := ⟨n0.toNat, by omega⟩
    obtain ⟨N, rfl⟩ : ∃ N : Nat, n1 = N := ⟨n1.toNat, by omega⟩
    have hfew := allW_few (D := D) (by omega) (n := N) (by omega)
    have hc1 := codeP_0 hp hsh
    have hc2 := codeP_0 hp3 hsh
    have hD : 1 ≤ D ∧ D ≤ 3 := by omega
    have hN : 1 ≤ N ∧ N ≤ 5 := by omega
    cases hv : sigV ps2 (allW D N) N ps2.length with
    | none => exact law false 3 (fun W b k b' k' q1 q2 q3 q4 r r' => sAre_2 D N hD hN _ _ _ _ b b' k k' ps2 ps3 q1 q2 q3 q4 W r r' (Nat.le_refl _) (Nat.le_refl _) hc hp hp3 hc1 hc2 hv) (fun W b k b' k' q1 q2 q3 q4 r r' => iAre_2 D N hD hN _ _ _ _ b b' k k' ps2 ps3 q1 q2 q3 q4 W r r' (Nat.le_refl _) (Nat.le_refl _) hc hp hp3 hc1 hc2 hv)
    | some h =>
      cases hv2 : sigV ps3 (allW D N) N ps3.length with
      | none => exact law false 3 (fun W b k b' k' q1 q2 q3 q4 r r' => sAre_3 D N hD hN _ _ _ _ b b' k k' ps2 ps3 q1 q2 q3 q4 W r r' (Nat.le_refl _) (Nat.le_refl _) hc hp hp3 hc1 hc2 hv2) (fun W b k b' k' q1 q2 q3 q4 r r' => iAre_3 D N hD hN _ _ _ _ b b' k k' ps2 ps3 q1 q2 q3 q4 W r r' (Nat.le_refl _) (Nat.le_refl _) hc hp hp3 hc1 hc2 h hv hv2)
      | some h2 =>
        have hlen := termsOf_len h (allW D N)
        have hlen2 := termsOf_len h2 (allW D N)
        have hx : (termsOf h (allW D N)).length ≤ 1048576 := by omega
        have hy : (termsOf h2 (allW D N)).length ≤ 1048576 := by omega
        by_cases heq : termsOf h (allW D N) = termsOf h2 (allW D N)
        · have hb : true = true ↔ termsOf h (allW D N) = termsOf h2 (allW D N) := ⟨fun _ => heq, fun _ => rfl⟩
          exact law true 0 (fun W b k b' k' q1 q2 q3 q4 r r' => sAre_4 D N hD hN _ _ _ _ b b' k k' ps2 ps3 q1 q2 q3 q4 W r r' (Nat.le_refl _) (Nat.le_refl _) hc hp hp3 hc1 hc2 h h2 hv hv2 hx hy true hb) (fun W b k b' k' q1 q2 q3 q4 r r' => iAre_4 D N hD hN _ _ _ _ b b' k k' ps2 ps3 q1 q2 q3 q4 W r r' (Nat.le_refl _) (Nat.le_refl _) hc hp hp3 hc1 hc2 h h2 hv hv2 hx hy true hb)
        · have hb : false = true ↔ termsOf h (allW D N) = termsOf h2 (allW D N) := ⟨fun e => (by cases e), fun e => absurd e heq⟩
          exact law false 0 (fun W b k b' k' q1 q2 q3 q4 r r' => sAre_4 D N hD hN _ _ _ _ b b' k k' ps2 ps3 q1 q2 q3 q4 W r r' (Nat.le_refl _) (Nat.le_refl _) hc hp hp3 hc1 hc2 h h2 hv hv2 hx hy false hb) (fun W b k b' k' q1 q2 q3 q4 r r' => iAre_4 D N hD hN _ _ _ _ b b' k k' ps2 ps3 q1 q2 q3 q4 W r r' (Nat.le_refl _) (Nat.le_refl _) hc hp hp3 hc1 hc2 h h2 hv hv2 hx hy false hb)
  · exact law false _ (fun W b k b' k' q1 q2 q3 q4 r r' => sAre_1 n0 n1 _ _ _ _ b b' k k' ps2 ps3 q1 q2 q3 q4 W r r' (Nat.le_refl _) (Nat.le_refl _) _ rfl hc) (fun W b k b' k' q1 q2 q3 q4 r r' => iAre_1 n0 n1 _ _ _ _ b b' k k' ps2 ps3 q1 q2 q3 q4 W r r' (Nat.le_refl _) (Nat.le_refl _) _ rfl hc)

namespace fnExactAreSignaturesEqual
set_option maxRecDepth 100000 in
theorem lifted (os : Os) (started : os.Started) (H : Type) (enc : TypeId × Value → H) :
    ReturnsInHanded {} Tryd.checked os 9 .any (fun w args => (Rows.fnExactAreSignaturesEqualSpec.pre enc Tryd.prog Tryd.f9 [] false w args ∧ laidMetH Tryd.prog Rows.fnExactAreSignaturesEqualRow.laid w) ∧ sizedMet enc Tryd.prog Tryd.f9 (OpenSpec.ofChange Rows.fnExactAreSignaturesEqualSpec) false w args)
      (Rows.fnExactAreSignaturesEqualSpec.post enc Tryd.prog Tryd.f9 false true false false) := by
  refine returnsInHanded_of_change_and (C := Tryd.checked) (X := fun w _ => laidMetH Tryd.prog Rows.fnExactAreSignaturesEqualRow.laid w) (fun _ _ _ hh h => h.of_heap hh) seatOwn started (by kernel_rfl) Tryd.func9
    (ChangeSpec.witness_shaped (enc := enc) (C := Tryd.checked) (os := os) (X := fun w _ => laidMetH Tryd.prog Rows.fnExactAreSignaturesEqualRow.laid w) false (World.doorLaid Tryd.prog 400 os) #[.int .i64 0, .int .i64 0, .slice none 0 0, .slice none 0 0] 8 rfl (door_shaped os _) (by kernel_rfl) (by kernel_rfl) (by kernel_rfl) (door_met3 os _)) ?_
  intro W base args ds gs before hval0 hW _ _ _ _
  have hval : ∀ (j : Nat) t v, Tryd.f9.params[j]? = some t → args[j]? = some v → Value.okWide Tryd.prog W .any base t v := hval0
  have hW' := hW
  have hlt : ∀ x ∈ before, x.block < W.heap.size := fun x hx => hW.lt x hx
  obtain ⟨p, q, hA0, hV, rfl, _, _⟩ := hW
  have hA : DataW.TrodAll enc Tryd.prog W 0 (fun _ => true) true Tryd.f9.params.toList args.toList ds p := hA0
  rw [Tryd.params9] at hA hval
  obtain ⟨v0, vs0, d00, ds0, p0, q0, hargs, rfl, rfl, h0, r0⟩ := trodAll_cons hA
  obtain ⟨v1, vs1, d10, ds1, p1, q1, rfl, rfl, rfl, h1, r1⟩ := trodAll_cons r0
  obtain ⟨v2, vs2, d20, ds2, p2, q2, rfl, rfl, rfl, h2, r2⟩ := trodAll_cons r1
  obtain ⟨v3, vs3, d30, ds3, p3, q3, rfl, rfl, rfl, h3, r3⟩ := trodAll_cons r2
  obtain ⟨rfl, rfl, rfl⟩ := trodAll_nil r3
  obtain rfl : args = #[v0, v1, v2, v3] := by cases args; simp_all
  obtain ⟨rfl, rfl⟩ := trodVars_none hV
  obtain ⟨n0, rfl, rfl, rfl, wf0⟩ := open_int Tryd.underlying2 (hval 0 2 v0 rfl rfl) h0
  obtain ⟨n1, rfl, rfl, rfl, wf1⟩ := open_int Tryd.underlying2 (hval 1 2 v1 rfl rfl) h1
  have h2k := h2
  obtain ⟨a2, cap2, ps2, rfl, hl2, hs2, hr2⟩ := open_path (hval 2 41 v2 rfl rfl) h2
  have h3k := h3
  obtain ⟨a3, cap3, ps3, rfl, hl3, hs3, hr3⟩ := open_path (hval 3 41 v3 rfl rfl) h3
  clear hA0 hval0
  simp only [List.append_nil, List.nil_append] at hW' hlt
  refine (main_AreSignaturesEqual n0 n1 a2 cap2 ps2 hl2 hs2 a3 cap3 ps3 hl3 hs3 W hr2 hr3).mono fun e W' ⟨he, hg⟩ => ?_
  subst he
  have hk2 := Below.trod seatLaid (by kernel_rfl) (of_decide_eq_true (by kernel_rfl)) h2k hg (fun x hx => hlt x (by simp [hx]))
  have hk3 := Below.trod seatLaid (by kernel_rfl) (of_decide_eq_true (by kernel_rfl)) h3k hg (fun x hx => hlt x (by simp [hx]))
  exact ⟨_, rfl, shut_reads (pa := p2 ++ p3) hW' (fun _ _ _ => (trodAll_cons_mk (shut_bool Tryd.underlying4 _) trodAll_mk0)) (by have h := (trodAll_cons_mk (shut_int Tryd.underlying2 wf0) (trodAll_cons_mk (shut_int Tryd.underlying2 wf1) (trodAll_cons_mk hk2 (trodAll_cons_mk hk3 trodAll_mk0)))); simp only [List.append_nil, List.nil_append] at h; exact h) (fun _ => rfl) hg⟩
end fnExactAreSignaturesEqual
end Go.Proofs.YtoeednnkadmjpaaDoor
