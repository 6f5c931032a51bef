/-
  'FnExactMeanSignature' returns true at every input: the program's MeanSignature and its model's return the same series and code, in memory of its own, and the list of steps reads as before. No condition.
-/
import Derived.Test.YteljpgoaaelbfaaGreatDoorLawMeanSignature
import Derived.Test.YteljpgoaaelbfaaGreatDoorMnS
import Derived.Test.YteljpgoaaelbfaaGreatDoorMnP
import Derived.Test.YteljpgoaaelbfaaGreatDoorSerP
import Derived.Test.YteljpgoaaelbfaaGreatDoorOpenP
import Derived.Test.YteljpgoaaelbfaaGreatDoorDoor
namespace Go.Proofs.YteljpgoaaelbfaaGreatDoor
open Go.ChangeShapes Go.WideShapes Go.ChangeAt Go.RowKit

theorem main_MeanSignature (n0 n1 : Int) (a : Option Addr) (cap : Nat) (ps : List (List Int)) (hl : ps.length ≤ maxLen) (hs : ∀ i (h : i < ps.length), (ps[i]).length ≤ maxLen) (n3 : Int) (w : World) (hr : PRow 0 w.heap.size w a ps) :
    Calls Tryz.prog 3 #[.int .i64 n0, .int .i64 n1, .slice a ps.length cap, .int .i64 n3] w fun e w' => e = .returned (.bool true) ∧ Below w.heap.size w w' := by
  have law := law_MeanSignature n0 n1 n3 a cap ps hl hs w hr
  by_cases hc : codeP n0 n1 ps = 0
  · by_cases hn : ps.length = 0 ∨ inB n3 0 8 = false
    · exact law 0 0 2 [] (by simp) (fun W b k q1 q2 hr => sMn_2 n0 n1 n3 _ _ b k ps q1 q2 hc hn W hr (Nat.le_refl _)) (fun W b k q1 q2 hr => iMn_2 n0 n1 n3 _ _ b k ps q1 q2 hc hn W hr (Nat.le_refl _))
    · have hp : pathB n0 ps = true := by
        cases h : pathB n0 ps with
        | true => rfl
        | false => rw [codeP_1 h] at hc; cases hc
      have hsh : shapeB n0 n1 = true := by
        cases h : shapeB n0 n1 with
        | true => rfl
        | false => rw [codeP_2 hp h] at hc; cases hc
      have hLV := shape_out hsh
      have hp0 : 1 ≤ ps.length := Nat.one_le_iff_ne_zero.2 fun e => hn (.inl e)
      have hnb : inB n3 0 8 = true := by
        cases h : inB n3 0 8 with
        | true => rfl
        | false => exact absurd (.inr h) hn
      have hn8 := inB_true hnb
      obtain ⟨D, rfl⟩ : ∃ D : Nat, n0 = D := ⟨n0.toNat, by omega⟩
      obtain ⟨N, rfl⟩ : ∃ N : Nat, n1 = N := ⟨n1.toNat, by omega⟩
      obtain ⟨K, rfl⟩ : ∃ K : Nat, n3 = K := ⟨n3.toNat, by omega⟩
      have hfew := allW_few (D := D) (by omega) (n := N) (by omega)
      have hS := fun W b k q1 q2 hr => sMn_3 D N K (by omega) (by omega) (by omega) 0 W.heap.size b k ps q1 q2 hp hp0 hc W hr (Nat.le_refl _)
      cases hv : meanV ps (allW D N) N with
      | none =>
        rw [hv] at hS
        exact law 0 0 3 [] (by simp) (fun W b k q1 q2 hr => hS W b k q1 q2 hr) (fun W b k q1 q2 hr => iMn_3no D N (by omega) (by omega) K _ _ b k ps q1 q2 hp hp0 hnb hc hv W hr (Nat.le_refl _))
      | some m =>
        rw [hv] at hS
        have hI := fun W b k q1 q2 hr => iMn_3yes D N (by omega) (by omega) K (by omega) 0 W.heap.size b k ps q1 q2 hp hp0 hc m hsh hv W hr (Nat.le_refl _)
        have hS2 := fun W b k q1 q2 hr => (show Calls _ _ _ _ (FitV D N (powV m (allW D N) K) W) from hS W b k q1 q2 hr)
        cases hq : powV m (allW D N) K with
        | none =>
          rw [hq] at hI hS2
          exact law 0 0 3 [] (by simp) (fun W b k q1 q2 hr => hS2 W b k q1 q2 hr) (fun W b k q1 q2 hr => hI W b k q1 q2 hr)
        | some h =>
          rw [hq] at hI hS2
          have hlen := termsOf_len h (allW D N)
          exact law D N 0 (termsOf h (allW D N)) (by omega) (fun W b k q1 q2 hr => hS2 W b k q1 q2 hr) (fun W b k q1 q2 hr => hI W b k q1 q2 hr)
  · exact law 0 0 _ [] (by simp) (fun W b k q1 q2 hr => sMn_1 n0 n1 n3 _ _ b k ps q1 q2 _ rfl hc W hr (Nat.le_refl _)) (fun W b k q1 q2 hr => iMn_1 n0 n1 n3 _ _ b k ps q1 q2 _ rfl hc W hr (Nat.le_refl _))

namespace fnExactMeanSignature
set_option maxRecDepth 100000 in
theorem lifted (os : Os) (started : os.Started) (H : Type) (enc : TypeId × Value → H) :
    ReturnsInHanded {} Tryz.checked os 3 .any (fun w args => (Rows.fnExactMeanSignatureSpec.pre enc Tryz.prog Tryz.f3 [] false w args ∧ laidMetH Tryz.prog Rows.fnExactMeanSignatureRow.laid w) ∧ sizedMet enc Tryz.prog Tryz.f3 (OpenSpec.ofChange Rows.fnExactMeanSignatureSpec) false w args)
      (Rows.fnExactMeanSignatureSpec.post enc Tryz.prog Tryz.f3 false true false false) := by
  refine returnsInHanded_of_change_and (C := Tryz.checked) (X := fun w _ => laidMetH Tryz.prog Rows.fnExactMeanSignatureRow.laid w) (fun _ _ _ hh h => h.of_heap hh) seatOwn started (by kernel_rfl) Tryz.func3
    (ChangeSpec.witness_shaped (enc := enc) (C := Tryz.checked) (os := os) (X := fun w _ => laidMetH Tryz.prog Rows.fnExactMeanSignatureRow.laid w) false (World.doorLaid Tryz.prog 400 os) #[.int .i64 0, .int .i64 0, .slice none 0 0, .int .i64 0] 8 rfl (door_shaped os _) (by kernel_rfl) (by kernel_rfl) (by kernel_rfl) (door_met3 os _)) ?_
  intro W base args ds gs before hval0 hW _ _ _ _
  have hval : ∀ (j : Nat) t v, Tryz.f3.params[j]? = some t → args[j]? = some v → Value.okWide Tryz.prog W .any base t v := hval0
  have hW' := hW
  have hlt : ∀ x ∈ before, x.block < W.heap.size := fun x hx => hW.lt x hx
  obtain ⟨p, q, hA0, hV, rfl, _, _⟩ := hW
  have hA : DataW.TrodAll enc Tryz.prog W 0 (fun _ => true) true Tryz.f3.params.toList args.toList ds p := hA0
  rw [Tryz.params3] at hA hval
  obtain ⟨v0, vs0, d00, ds0, p0, q0, hargs, rfl, rfl, h0, r0⟩ := trodAll_cons hA
  obtain ⟨v1, vs1, d10, ds1, p1, q1, rfl, rfl, rfl, h1, r1⟩ := trodAll_cons r0
  obtain ⟨v2, vs2, d20, ds2, p2, q2, rfl, rfl, rfl, h2, r2⟩ := trodAll_cons r1
  obtain ⟨v3, vs3, d30, ds3, p3, q3, rfl, rfl, rfl, h3, r3⟩ := trodAll_cons r2
  obtain ⟨rfl, rfl, rfl⟩ := trodAll_nil r3
  obtain rfl : args = #[v0, v1, v2, v3] := by cases args; simp_all
  obtain ⟨rfl, rfl⟩ := trodVars_none hV
  obtain ⟨n0, rfl, rfl, rfl, wf0⟩ := open_int Tryz.underlying2 (hval 0 2 v0 rfl rfl) h0
  obtain ⟨n1, rfl, rfl, rfl, wf1⟩ := open_int Tryz.underlying2 (hval 1 2 v1 rfl rfl) h1
  have h2k := h2
  obtain ⟨a2, cap2, ps2, rfl, hl2, hs2, hr2⟩ := open_path (hval 2 22 v2 rfl rfl) h2
  obtain ⟨n3, rfl, rfl, rfl, wf3⟩ := open_int Tryz.underlying2 (hval 3 2 v3 rfl rfl) h3
  clear hA0 hval0
  simp only [List.append_nil] at hW' hlt
  refine (main_MeanSignature n0 n1 a2 cap2 ps2 hl2 hs2 n3 W hr2).mono fun e W' ⟨he, hg⟩ => ?_
  subst he
  have hk2 := Below.trod seatLaid (by kernel_rfl) (of_decide_eq_true (by kernel_rfl)) h2k hg (fun x hx => hlt x (by simp [hx]))
  exact ⟨_, rfl, shut_reads (pa := p2) hW' (fun _ _ _ => (trodAll_cons_mk (shut_bool Tryz.underlying4 _) trodAll_mk0)) (by have h := (trodAll_cons_mk (shut_int Tryz.underlying2 wf0) (trodAll_cons_mk (shut_int Tryz.underlying2 wf1) (trodAll_cons_mk hk2 (trodAll_cons_mk (shut_int Tryz.underlying2 wf3) trodAll_mk0)))); simp only [List.append_nil] at h; exact h) (fun _ => rfl) hg⟩
end fnExactMeanSignature
end Go.Proofs.YteljpgoaaelbfaaGreatDoor
