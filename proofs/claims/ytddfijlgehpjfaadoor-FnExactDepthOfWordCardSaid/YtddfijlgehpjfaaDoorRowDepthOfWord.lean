/-
  'FnExactDepthOfWord' returns true at every input for which the two functions' contracts stand: the program's DepthOfWord and its model's return the same number and code.
  'FnExactDepthOfWord' returns true at every input: the program's DepthOfWord and its model's agree in number and code, and the word reads as before. No condition.
-/
import Derived.Test.YtddfijlgehpjfaaDoorIntC
import Derived.Test.YtddfijlgehpjfaaDoorDpt
import Derived.Test.YtddfijlgehpjfaaDoorOpenR
import Derived.Test.YtddfijlgehpjfaaDoorDoor
namespace Go.Proofs.YtddfijlgehpjfaaDoor
open Go.RowKit

set_option maxRecDepth 100000 in
set_option maxHeartbeats 8000000 in
theorem law_DepthOfWord (n0 : Int) (n1 : Int) (a2 : Option Addr) (cap2 : Nat) (ps2 : List Int) (_hl2 : ps2.length ≤ maxLen) (w : World) (hr2 : IRow 0 w.heap.size w a2 ps2) (z' c' : Int)
    (hS : ∀ (W : World) (b2 : Option Addr) (k2 : Nat), ps2.length ≤ 1048576 → IRow 0 W.heap.size W b2 ps2 → Calls Tryd.prog 13 #[.int .i64 n0, .int .i64 n1, .slice b2 ps2.length k2] W fun e w' => e = .returned (.tuple #[.int .i64 z', .int .i64 c']) ∧ Below W.heap.size W w')
    (hI : ∀ (W : World) (b2 : Option Addr) (k2 : Nat), ps2.length ≤ 1048576 → IRow 0 W.heap.size W b2 ps2 → Calls Tryd.prog 14 #[.int .i64 n0, .int .i64 n1, .slice b2 ps2.length k2] W fun e w' => e = .returned (.tuple #[.int .i64 z', .int .i64 c']) ∧ Below W.heap.size W w')
    : Calls Tryd.prog 4 #[.int .i64 n0, .int .i64 n1, .slice a2 ps2.length cap2] w fun e w' => e = .returned (.bool true) ∧ Below w.heap.size w w' := by
  have HSp := Lib.hid hS
  have HIm := Lib.hid hI
  have R2_0 := Lib.hid hr2
  clear hS hI hr2
  by_cases hbig2 : (1048576 : Int) < (ps2.length : Int)
  · go_enter Tryd.func4, Tryd.ntmps4
    go_wp2
    go_ret
    exact ⟨rfl, Below.refl _ _⟩
  have hl2_2 : ps2.length ≤ 1048576 := by omega
  go_enter Tryd.func4, Tryd.ntmps4
  go_wp2_with fail
  refine (toInt64S_new 0 w.heap.size a2 cap2 ps2 hl2_2 _ R2_0.out (by omega)).mono ?_
  rintro e w1 ⟨xs2, rfl, hb1, hN1⟩
  have hz1 := hb1.size
  have R2_1 := Lib.hid (R2_0.out.below hb1 (by omega))
  have B1 := Lib.hid ((hb1))
  have Ns2_1 := Lib.hid hN1
  clear hb1 hN1
  go_wp2_with fail
  refine (HSp.out _ _ _ hl2_2 (Ns2_1.out.row.mono (by omega) (by omega))).mono ?_
  rintro e w2 ⟨rfl, hb2⟩
  have hz2 := hb2.size
  have R2_2 := Lib.hid (R2_1.out.below hb2 (by omega))
  have Ns2_2 := Lib.hid (Ns2_1.out.below hb2 (by omega))
  have B2 := Lib.hid (B1.out.trans (hb2.mono (by omega)))
  clear hb2
  clear Ns2_2
  clear HSp
  go_wp2_with fail
  refine (toInt64S_new 0 w.heap.size a2 cap2 ps2 hl2_2 _ R2_2.out (by omega)).mono ?_
  rintro e w3 ⟨xx2, rfl, hb3, hN3⟩
  have hz3 := hb3.size
  have R2_3 := Lib.hid (R2_2.out.below hb3 (by omega))
  have B3 := Lib.hid (B2.out.trans (hb3.mono (by omega)))
  have Nx2_3 := Lib.hid hN3
  clear hb3 hN3
  go_wp2_with fail
  refine (HIm.out _ _ _ hl2_2 (Nx2_3.out.row.mono (by omega) (by omega))).mono ?_
  rintro e w4 ⟨rfl, hb4⟩
  have hz4 := hb4.size
  have R2_4 := Lib.hid (R2_3.out.below hb4 (by omega))
  have Nx2_4 := Lib.hid (Nx2_3.out.below hb4 (by omega))
  have B4 := Lib.hid (B3.out.trans (hb4.mono (by omega)))
  clear hb4
  go_wp2_with fail
  refine (toInt64S_new 0 w.heap.size a2 cap2 ps2 hl2_2 _ R2_4.out (by omega)).mono ?_
  rintro e w5 ⟨xy2, rfl, hb5, hN5⟩
  have hz5 := hb5.size
  have R2_5 := Lib.hid (R2_4.out.below hb5 (by omega))
  have Nx2_5 := Lib.hid (Nx2_4.out.below hb5 (by omega))
  have B5 := Lib.hid (B4.out.trans (hb5.mono (by omega)))
  have Ny2_5 := Lib.hid hN5
  clear hb5 hN5
  go_wp2_with fail
  refine (eqInt64S_row _ _ _ _ xx2 xy2 _ _ ps2 hl2_2 _ Nx2_5.out.row Ny2_5.out.row (by omega) (by omega)).mono ?_
  rintro e w6 ⟨rfl, hb6⟩
  clear Ny2_5
  have hz6 := hb6.size
  have R2_6 := Lib.hid (R2_5.out.below hb6 (by omega))
  have Nx2_6 := Lib.hid (Nx2_5.out.below hb6 (by omega))
  have B6 := Lib.hid (B5.out.trans (hb6.mono (by omega)))
  clear hb6
  go_wp2
  go_ret
  exact ⟨rfl, B6.out⟩
end Go.Proofs.YtddfijlgehpjfaaDoor

namespace Go.Proofs.YtddfijlgehpjfaaDoor
open Go.ChangeShapes Go.WideShapes Go.ChangeAt Go.RowKit

theorem main_DepthOfWord (n0 n1 : Int) (a2 : Option Addr) (cap2 : Nat) (ps2 : List Int) (hl2 : ps2.length ≤ maxLen) (w : World) (hr2 : IRow 0 w.heap.size w a2 ps2) :
    Calls Tryd.prog 4 #[.int .i64 n0, .int .i64 n1, .slice a2 ps2.length cap2] w fun e w' => e = .returned (.bool true) ∧ Below w.heap.size w w' := by
  have law := law_DepthOfWord n0 n1 a2 cap2 ps2 hl2 w hr2
  cases h1 : shapeB n0 n1 with
  | false => exact law 0 2 (fun W b k q r => sDpt_1 n0 n1 _ _ b k ps2 q (by simp [codeG, h1]) W r) (fun W b k q r => iDpt_1 n0 n1 _ _ b k ps2 q (.inl h1) W r (Nat.le_refl _))
  | true =>
    cases h2 : grpB n0 ps2 with
    | false => exact law 0 2 (fun W b k q r => sDpt_1 n0 n1 _ _ b k ps2 q (by simp [codeG, h2]) W r) (fun W b k q r => iDpt_1 n0 n1 _ _ b k ps2 q (.inr ⟨h1, h2⟩) W r (Nat.le_refl _))
    | true =>
      have hLV := shape_out h1
      obtain ⟨D, rfl⟩ : ∃ D : Nat, n0 = D := ⟨n0.toNat, by omega⟩
      obtain ⟨N, rfl⟩ : ∃ N : Nat, n1 = N := ⟨n1.toNat, by omega⟩
      have hD : 1 ≤ D ∧ D ≤ 3 := by omega
      have hN : 1 ≤ N ∧ N ≤ 5 := by omega
      have hG := grpB_true h2
      obtain ⟨h, hq, hrep⟩ := sig_rep hD hN hG.len (fun x hx => ⟨six_of hG x hx, by have := hG.lo x hx; have := hG.hi x hx; omega⟩) ps2.length (Nat.le_refl _)
      exact law (depL (termsOf h (allW D N))) 0 (fun W b k q r => sDpt_2 D N h1 _ _ b k ps2 q h2 h hrep W r (Nat.le_refl _)) (fun W b k q r => iDpt_2 D N h1 _ _ b k ps2 q h2 h hq (sig_row hD.2 hN.2 hrep) W r (Nat.le_refl _))

namespace fnExactDepthOfWord
set_option maxRecDepth 100000 in
theorem lifted (os : Os) (started : os.Started) (H : Type) (enc : TypeId × Value → H) :
    ReturnsInHanded {} Tryd.checked os 4 .any (fun w args => (Rows.fnExactDepthOfWordSpec.pre enc Tryd.prog Tryd.f4 [] false w args ∧ laidMetH Tryd.prog Rows.fnExactDepthOfWordRow.laid w) ∧ sizedMet enc Tryd.prog Tryd.f4 (OpenSpec.ofChange Rows.fnExactDepthOfWordSpec) false w args)
      (Rows.fnExactDepthOfWordSpec.post enc Tryd.prog Tryd.f4 false true false false) := by
  refine returnsInHanded_of_change_and (C := Tryd.checked) (X := fun w _ => laidMetH Tryd.prog Rows.fnExactDepthOfWordRow.laid w) (fun _ _ _ hh h => h.of_heap hh) seatOwn started (by kernel_rfl) Tryd.func4
    (ChangeSpec.witness_shaped (enc := enc) (C := Tryd.checked) (os := os) (X := fun w _ => laidMetH Tryd.prog Rows.fnExactDepthOfWordRow.laid w) false (World.doorLaid Tryd.prog 400 os) #[.int .i64 0, .int .i64 0, .slice none 0 0] 8 rfl (door_shaped os _) (by kernel_rfl) (by kernel_rfl) (by kernel_rfl) (door_met3 os _)) ?_
  intro W base args ds gs before hval0 hW _ _ _ _
  have hval : ∀ (j : Nat) t v, Tryd.f4.params[j]? = some t → args[j]? = some v → Value.okWide Tryd.prog W .any base t v := hval0
  have hW' := hW
  have hlt : ∀ x ∈ before, x.block < W.heap.size := fun x hx => hW.lt x hx
  obtain ⟨p, q, hA0, hV, rfl, _, _⟩ := hW
  have hA : DataW.TrodAll enc Tryd.prog W 0 (fun _ => true) true Tryd.f4.params.toList args.toList ds p := hA0
  rw [Tryd.params4] at hA hval
  obtain ⟨v0, vs0, d00, ds0, p0, q0, hargs, rfl, rfl, h0, r0⟩ := trodAll_cons hA
  obtain ⟨v1, vs1, d10, ds1, p1, q1, rfl, rfl, rfl, h1, r1⟩ := trodAll_cons r0
  obtain ⟨v2, vs2, d20, ds2, p2, q2, rfl, rfl, rfl, h2, r2⟩ := trodAll_cons r1
  obtain ⟨rfl, rfl, rfl⟩ := trodAll_nil r2
  obtain rfl : args = #[v0, v1, v2] := by cases args; simp_all
  obtain ⟨rfl, rfl⟩ := trodVars_none hV
  obtain ⟨n0, rfl, rfl, rfl, wf0⟩ := open_int Tryd.underlying2 (hval 0 2 v0 rfl rfl) h0
  obtain ⟨n1, rfl, rfl, rfl, wf1⟩ := open_int Tryd.underlying2 (hval 1 2 v1 rfl rfl) h1
  have h2k := h2
  obtain ⟨a2, cap2, ps2, rfl, hl2, hr2⟩ := open_row (hval 2 22 v2 rfl rfl) h2
  clear hA0 hval0
  simp only [List.append_nil, List.nil_append] at hW' hlt
  refine (main_DepthOfWord n0 n1 a2 cap2 ps2 hl2 W hr2).mono fun e W' ⟨he, hg⟩ => ?_
  subst he
  have hk2 := Below.trod seatLaid (by kernel_rfl) (of_decide_eq_true (by kernel_rfl)) h2k hg (fun x hx => hlt x (by simp [hx]))
  exact ⟨_, rfl, shut_reads (pa := p2) hW' (fun _ _ _ => (trodAll_cons_mk (shut_bool Tryd.underlying4 _) trodAll_mk0)) (by have h := (trodAll_cons_mk (shut_int Tryd.underlying2 wf0) (trodAll_cons_mk (shut_int Tryd.underlying2 wf1) (trodAll_cons_mk hk2 trodAll_mk0))); simp only [List.append_nil, List.nil_append] at h; exact h) (fun _ => rfl) hg⟩
end fnExactDepthOfWord
end Go.Proofs.YtddfijlgehpjfaaDoor
