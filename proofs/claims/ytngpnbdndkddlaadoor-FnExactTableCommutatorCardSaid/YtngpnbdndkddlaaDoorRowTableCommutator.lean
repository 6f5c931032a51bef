/-
  'FnExactTableCommutator' returns true at every input: the program's TableCommutator and its model's return the same list of lists and code, in memory of its own, and the tables read as before. No condition.
-/
import Derived.Test.YtngpnbdndkddlaaDoorLawTableCommutator
import Derived.Test.YtngpnbdndkddlaaDoorComR
import Derived.Test.YtngpnbdndkddlaaDoorOpenT
import Derived.Test.YtngpnbdndkddlaaDoorDoor
namespace Go.Proofs.YtngpnbdndkddlaaDoor
open Go.ChangeShapes Go.WideShapes Go.ChangeAt Go.RowKit

theorem main_TableCommutator (n0 : Int) (a : Option Addr) (cap : Nat) (ts : Tabs) (hl : ts.length ≤ maxLen) (hs : ∀ i (h : i < ts.length), (ts[i]).length ≤ maxLen ∧ ∀ j (h2 : j < (ts[i]).length), ((ts[i])[j]).length ≤ maxLen) (n2 n3 : Int) (w : World) (hr : TRow 0 w.heap.size w a ts) :
    Calls Tryd.prog 5 #[.int .i64 n0, .slice a ts.length cap, .int .i64 n2, .int .i64 n3] w fun e w' => e = .returned (.bool true) ∧ Below w.heap.size w w' := by
  have law := law_TableCommutator n0 n2 n3 a cap ts hl hs w hr
  cases h : tabsB n0 ts with
  | false => exact law [] 1 (by simp) (by simp [flat]) (fun W b k q1 q2 hr => sTc_1 _ _ n0 b k ts q1 q2 W hr n2 n3 h) (fun W b k q1 q2 hr => iTc_1 _ _ n0 b k ts q1 q2 W hr n2 n3 h)
  | true =>
    cases h2 : (inB n2 0 (n0 - 1) && inB n3 0 (n0 - 1)) with
    | false => exact law [] 2 (by simp) (by simp [flat]) (fun W b k q1 q2 hr => sTc_2 _ _ n0 b k ts q1 q2 W hr n2 n3 h h2) (fun W b k q1 q2 hr => iTc_2 _ _ n0 b k ts q1 q2 W hr n2 n3 h h2)
    | true =>
      rw [Bool.and_eq_true] at h2
      have h3 := inB_true h2.1
      have h4 := inB_true h2.2
      have hLe := (tabsB_true h).2.1
      have hn := (tabs_sq h).1
      obtain ⟨i, rfl⟩ : ∃ i : Nat, n2 = i := ⟨n2.toNat, by omega⟩
      obtain ⟨k, rfl⟩ : ∃ k : Nat, n3 = k := ⟨n3.toNat, by omega⟩
      have hf := flat_tabF hn.2 (comF (wid ts) ts i k)
      exact law (tabF (wid ts) (comF (wid ts) ts i k)) 0 (by rw [tabF_length]; omega) (by omega) (fun W b q q1 q2 hr => sTc_3 _ _ n0 b q ts q1 q2 W hr (Nat.le_refl _) i k h (by omega) (by omega)) (fun W b q q1 q2 hr => iTc_3 _ _ n0 b q ts q1 q2 W hr (Nat.le_refl _) i k h (by omega) (by omega))

namespace fnExactTableCommutator
set_option maxRecDepth 100000 in
theorem lifted (os : Os) (started : os.Started) (H : Type) (enc : TypeId × Value → H) :
    ReturnsInHanded {} Tryd.checked os 5 .any (fun w args => (Rows.fnExactTableCommutatorSpec.pre enc Tryd.prog Tryd.f5 [] false w args ∧ laidMetH Tryd.prog Rows.fnExactTableCommutatorRow.laid w) ∧ sizedMet enc Tryd.prog Tryd.f5 (OpenSpec.ofChange Rows.fnExactTableCommutatorSpec) false w args)
      (Rows.fnExactTableCommutatorSpec.post enc Tryd.prog Tryd.f5 false true false false) := by
  refine returnsInHanded_of_change_and (C := Tryd.checked) (X := fun w _ => laidMetH Tryd.prog Rows.fnExactTableCommutatorRow.laid w) (fun _ _ _ hh h => h.of_heap hh) seatOwn started (by kernel_rfl) Tryd.func5
    (ChangeSpec.witness_shaped (enc := enc) (C := Tryd.checked) (os := os) (X := fun w _ => laidMetH Tryd.prog Rows.fnExactTableCommutatorRow.laid w) false (World.doorLaid Tryd.prog 400 os) #[.int .i64 0, .slice none 0 0, .int .i64 0, .int .i64 0] 8 rfl (door_shaped os _) (by kernel_rfl) (by kernel_rfl) (by kernel_rfl) (door_met3 os _)) ?_
  intro W base args ds gs before hval0 hW _ _ _ _
  have hval : ∀ (j : Nat) t v, Tryd.f5.params[j]? = some t → args[j]? = some v → Value.okWide Tryd.prog W .any base t v := hval0
  have hW' := hW
  have hlt : ∀ x ∈ before, x.block < W.heap.size := fun x hx => hW.lt x hx
  obtain ⟨p, q, hA0, hV, rfl, _, _⟩ := hW
  have hA : DataW.TrodAll enc Tryd.prog W 0 (fun _ => true) true Tryd.f5.params.toList args.toList ds p := hA0
  rw [Tryd.params5] at hA hval
  obtain ⟨v0, vs0, d00, ds0, p0, q0, hargs, rfl, rfl, h0, r0⟩ := trodAll_cons hA
  obtain ⟨v1, vs1, d10, ds1, p1, q1, rfl, rfl, rfl, h1, r1⟩ := trodAll_cons r0
  obtain ⟨v2, vs2, d20, ds2, p2, q2, rfl, rfl, rfl, h2, r2⟩ := trodAll_cons r1
  obtain ⟨v3, vs3, d30, ds3, p3, q3, rfl, rfl, rfl, h3, r3⟩ := trodAll_cons r2
  obtain ⟨rfl, rfl, rfl⟩ := trodAll_nil r3
  obtain rfl : args = #[v0, v1, v2, v3] := by cases args; simp_all
  obtain ⟨rfl, rfl⟩ := trodVars_none hV
  obtain ⟨n0, rfl, rfl, rfl, wf0⟩ := open_int Tryd.underlying2 (hval 0 2 v0 rfl rfl) h0
  have h1k := h1
  obtain ⟨a1, cap1, ps1, rfl, hl1, hs1, hr1⟩ := open_tabs (hval 1 34 v1 rfl rfl) h1
  obtain ⟨n2, rfl, rfl, rfl, wf2⟩ := open_int Tryd.underlying2 (hval 2 2 v2 rfl rfl) h2
  obtain ⟨n3, rfl, rfl, rfl, wf3⟩ := open_int Tryd.underlying2 (hval 3 2 v3 rfl rfl) h3
  clear hA0 hval0
  simp only [List.append_nil, List.nil_append] at hW' hlt
  refine (main_TableCommutator n0 a1 cap1 ps1 hl1 hs1 n2 n3 W hr1).mono fun e W' ⟨he, hg⟩ => ?_
  subst he
  have hk1 := Below.trod seatLaid (by kernel_rfl) (of_decide_eq_true (by kernel_rfl)) h1k hg (fun x hx => hlt x (by simp [hx]))
  exact ⟨_, rfl, shut_reads (pa := p1) hW' (fun _ _ _ => (trodAll_cons_mk (shut_bool Tryd.underlying4 _) trodAll_mk0)) (by have h := (trodAll_cons_mk (shut_int Tryd.underlying2 wf0) (trodAll_cons_mk hk1 (trodAll_cons_mk (shut_int Tryd.underlying2 wf2) (trodAll_cons_mk (shut_int Tryd.underlying2 wf3) trodAll_mk0)))); simp only [List.append_nil, List.nil_append] at h; exact h) (fun _ => rfl) hg⟩
end fnExactTableCommutator
end Go.Proofs.YtngpnbdndkddlaaDoor
