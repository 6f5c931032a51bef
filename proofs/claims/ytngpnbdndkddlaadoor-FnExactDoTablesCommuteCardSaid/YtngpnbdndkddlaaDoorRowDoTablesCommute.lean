/-
  'FnExactDoTablesCommute' returns true at every input: the program's DoTablesCommute and its model's return the same bool and code, and the tables read as before. No condition.
-/
import Derived.Test.YtngpnbdndkddlaaDoorLawDoTablesCommute
import Derived.Test.YtngpnbdndkddlaaDoorComR
import Derived.Test.YtngpnbdndkddlaaDoorOpenT
import Derived.Test.YtngpnbdndkddlaaDoorDoor
namespace Go.Proofs.YtngpnbdndkddlaaDoor
open Go.ChangeShapes Go.WideShapes Go.ChangeAt Go.RowKit

theorem main_DoTablesCommute (n0 : Int) (a : Option Addr) (cap : Nat) (ts : Tabs) (hl : ts.length ≤ maxLen) (hs : ∀ i (h : i < ts.length), (ts[i]).length ≤ maxLen ∧ ∀ j (h2 : j < (ts[i]).length), ((ts[i])[j]).length ≤ maxLen) (w : World) (hr : TRow 0 w.heap.size w a ts) :
    Calls Tryd.prog 4 #[.int .i64 n0, .slice a ts.length cap] w fun e w' => e = .returned (.bool true) ∧ Below w.heap.size w w' := by
  have law := law_DoTablesCommute n0 a cap ts hl hs w hr
  cases h : tabsB n0 ts with
  | false => exact law false 1 (fun W b k q1 q2 hr => sDo_1 _ _ n0 b k ts q1 q2 W hr h) (fun W b k q1 q2 hr => iDo_1 _ _ n0 b k ts q1 q2 W hr h)
  | true => exact law (commB (wid ts) ts) 0 (fun W b k q1 q2 hr => sDo_2 _ _ n0 b k ts q1 q2 W hr (Nat.le_refl _) h) (fun W b k q1 q2 hr => iDo_2 _ _ n0 b k ts q1 q2 W hr (Nat.le_refl _) h)

namespace fnExactDoTablesCommute
set_option maxRecDepth 100000 in
theorem lifted (os : Os) (started : os.Started) (H : Type) (enc : TypeId × Value → H) :
    ReturnsInHanded {} Tryd.checked os 4 .any (fun w args => (Rows.fnExactDoTablesCommuteSpec.pre enc Tryd.prog Tryd.f4 [] false w args ∧ laidMetH Tryd.prog Rows.fnExactDoTablesCommuteRow.laid w) ∧ sizedMet enc Tryd.prog Tryd.f4 (OpenSpec.ofChange Rows.fnExactDoTablesCommuteSpec) false w args)
      (Rows.fnExactDoTablesCommuteSpec.post enc Tryd.prog Tryd.f4 false true false false) := by
  refine returnsInHanded_of_change_and (C := Tryd.checked) (X := fun w _ => laidMetH Tryd.prog Rows.fnExactDoTablesCommuteRow.laid w) (fun _ _ _ hh h => h.of_heap hh) seatOwn started (by kernel_rfl) Tryd.func4
    (ChangeSpec.witness_shaped (enc := enc) (C := Tryd.checked) (os := os) (X := fun w _ => laidMetH Tryd.prog Rows.fnExactDoTablesCommuteRow.laid w) false (World.doorLaid Tryd.prog 400 os) #[.int .i64 0, .slice none 0 0] 8 rfl (door_shaped os _) (by kernel_rfl) (by kernel_rfl) (by kernel_rfl) (door_met3 os _)) ?_
  intro W base args ds gs before hval0 hW _ _ _ _
  have hval : ∀ (j : Nat) t v, Tryd.f4.params[j]? = some t → args[j]? = some v → Value.okWide Tryd.prog W .any base t v := hval0
  have hW' := hW
  have hlt : ∀ x ∈ before, x.block < W.heap.size := fun x hx => hW.lt x hx
  obtain ⟨p, q, hA0, hV, rfl, _, _⟩ := hW
  have hA : DataW.TrodAll enc Tryd.prog W 0 (fun _ => true) true Tryd.f4.params.toList args.toList ds p := hA0
  rw [Tryd.params4] at hA hval
  obtain ⟨v0, vs0, d00, ds0, p0, q0, hargs, rfl, rfl, h0, r0⟩ := trodAll_cons hA
  obtain ⟨v1, vs1, d10, ds1, p1, q1, rfl, rfl, rfl, h1, r1⟩ := trodAll_cons r0
  obtain ⟨rfl, rfl, rfl⟩ := trodAll_nil r1
  obtain rfl : args = #[v0, v1] := by cases args; simp_all
  obtain ⟨rfl, rfl⟩ := trodVars_none hV
  obtain ⟨n0, rfl, rfl, rfl, wf0⟩ := open_int Tryd.underlying2 (hval 0 2 v0 rfl rfl) h0
  have h1k := h1
  obtain ⟨a1, cap1, ps1, rfl, hl1, hs1, hr1⟩ := open_tabs (hval 1 34 v1 rfl rfl) h1
  clear hA0 hval0
  simp only [List.append_nil, List.nil_append] at hW' hlt
  refine (main_DoTablesCommute n0 a1 cap1 ps1 hl1 hs1 W hr1).mono fun e W' ⟨he, hg⟩ => ?_
  subst he
  have hk1 := Below.trod seatLaid (by kernel_rfl) (of_decide_eq_true (by kernel_rfl)) h1k hg (fun x hx => hlt x (by simp [hx]))
  exact ⟨_, rfl, shut_reads (pa := p1) hW' (fun _ _ _ => (trodAll_cons_mk (shut_bool Tryd.underlying4 _) trodAll_mk0)) (by have h := (trodAll_cons_mk (shut_int Tryd.underlying2 wf0) (trodAll_cons_mk hk1 trodAll_mk0)); simp only [List.append_nil, List.nil_append] at h; exact h) (fun _ => rfl) hg⟩
end fnExactDoTablesCommute
end Go.Proofs.YtngpnbdndkddlaaDoor
