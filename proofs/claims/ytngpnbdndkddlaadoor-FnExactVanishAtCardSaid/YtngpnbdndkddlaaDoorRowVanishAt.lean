/-
  'FnExactVanishAt' returns true at every input: the program's VanishAt and its model's return the same bool and code, and the tables read as before. No condition.
-/
import Derived.Test.YtngpnbdndkddlaaDoorLawVanishAt
import Derived.Test.YtngpnbdndkddlaaDoorVanT
import Derived.Test.YtngpnbdndkddlaaDoorOpenT
import Derived.Test.YtngpnbdndkddlaaDoorDoor
namespace Go.Proofs.YtngpnbdndkddlaaDoor
open Go.ChangeShapes Go.WideShapes Go.ChangeAt Go.RowKit

theorem main_VanishAt (n0 : Int) (a : Option Addr) (cap : Nat) (ts : Tabs) (hl : ts.length ≤ maxLen) (hs : ∀ i (h : i < ts.length), (ts[i]).length ≤ maxLen ∧ ∀ j (h2 : j < (ts[i]).length), ((ts[i])[j]).length ≤ maxLen) (n2 : Int) (w : World) (hr : TRow 0 w.heap.size w a ts) :
    Calls Tryd.prog 6 #[.int .i64 n0, .slice a ts.length cap, .int .i64 n2] w fun e w' => e = .returned (.bool true) ∧ Below w.heap.size w w' := by
  have law := law_VanishAt n0 n2 a cap ts hl hs w hr
  cases h : tabsB n0 ts with
  | false => exact law false 1 (fun W b k q1 q2 hr => sVa_1 _ _ n0 b k ts q1 q2 W hr n2 h) (fun W b k q1 q2 hr => iVa_1 _ _ n0 b k ts q1 q2 W hr n2 h)
  | true =>
    cases h2 : inB n2 0 4 with
    | false => exact law false 2 (fun W b k q1 q2 hr => sVa_2 _ _ n0 b k ts q1 q2 W hr n2 h h2) (fun W b k q1 q2 hr => iVa_2 _ _ n0 b k ts q1 q2 W hr n2 h h2)
    | true =>
      have h3 := inB_true h2
      obtain ⟨v, rfl⟩ : ∃ v : Nat, n2 = v := ⟨n2.toNat, by omega⟩
      have HS := fun W b k q1 q2 (hr : TRow 0 W.heap.size W b ts) => sVa_3 _ _ n0 b k ts q1 q2 W hr (Nat.le_refl _) v (by omega) h
      have HI := fun W b k q1 q2 (hr : TRow 0 W.heap.size W b ts) => iVa_3 _ _ n0 b k ts q1 q2 W hr (Nat.le_refl _) v (by omega) h
      cases ho : vanK (wid ts) ts (wordsL ts.length (v + 1)) (wordsL ts.length (v + 1)).length with
      | none =>
        rw [ho] at HS HI
        exact law false 3 (fun W b k q1 q2 hr => HS W b k q1 q2 hr) (fun W b k q1 q2 hr => HI W b k q1 q2 hr)
      | some z =>
        rw [ho] at HS HI
        exact law z 0 (fun W b k q1 q2 hr => HS W b k q1 q2 hr) (fun W b k q1 q2 hr => HI W b k q1 q2 hr)

namespace fnExactVanishAt
set_option maxRecDepth 100000 in
theorem lifted (os : Os) (started : os.Started) (H : Type) (enc : TypeId × Value → H) :
    ReturnsInHanded {} Tryd.checked os 6 .any (fun w args => (Rows.fnExactVanishAtSpec.pre enc Tryd.prog Tryd.f6 [] false w args ∧ laidMetH Tryd.prog Rows.fnExactVanishAtRow.laid w) ∧ sizedMet enc Tryd.prog Tryd.f6 (OpenSpec.ofChange Rows.fnExactVanishAtSpec) false w args)
      (Rows.fnExactVanishAtSpec.post enc Tryd.prog Tryd.f6 false true false false) := by
  refine returnsInHanded_of_change_and (C := Tryd.checked) (X := fun w _ => laidMetH Tryd.prog Rows.fnExactVanishAtRow.laid w) (fun _ _ _ hh h => h.of_heap hh) seatOwn started (by kernel_rfl) Tryd.func6
    (ChangeSpec.witness_shaped (enc := enc) (C := Tryd.checked) (os := os) (X := fun w _ => laidMetH Tryd.prog Rows.fnExactVanishAtRow.laid w) false (World.doorLaid Tryd.prog 400 os) #[.int .i64 0, .slice none 0 0, .int .i64 0] 8 rfl (door_shaped os _) (by kernel_rfl) (by kernel_rfl) (by kernel_rfl) (door_met3 os _)) ?_
  intro W base args ds gs before hval0 hW _ _ _ _
  have hval : ∀ (j : Nat) t v, Tryd.f6.params[j]? = some t → args[j]? = some v → Value.okWide Tryd.prog W .any base t v := hval0
  have hW' := hW
  have hlt : ∀ x ∈ before, x.block < W.heap.size := fun x hx => hW.lt x hx
  obtain ⟨p, q, hA0, hV, rfl, _, _⟩ := hW
  have hA : DataW.TrodAll enc Tryd.prog W 0 (fun _ => true) true Tryd.f6.params.toList args.toList ds p := hA0
  rw [Tryd.params6] at hA hval
  obtain ⟨v0, vs0, d00, ds0, p0, q0, hargs, rfl, rfl, h0, r0⟩ := trodAll_cons hA
  obtain ⟨v1, vs1, d10, ds1, p1, q1, rfl, rfl, rfl, h1, r1⟩ := trodAll_cons r0
  obtain ⟨v2, vs2, d20, ds2, p2, q2, rfl, rfl, rfl, h2, r2⟩ := trodAll_cons r1
  obtain ⟨rfl, rfl, rfl⟩ := trodAll_nil r2
  obtain rfl : args = #[v0, v1, v2] := by cases args; simp_all
  obtain ⟨rfl, rfl⟩ := trodVars_none hV
  obtain ⟨n0, rfl, rfl, rfl, wf0⟩ := open_int Tryd.underlying2 (hval 0 2 v0 rfl rfl) h0
  have h1k := h1
  obtain ⟨a1, cap1, ps1, rfl, hl1, hs1, hr1⟩ := open_tabs (hval 1 34 v1 rfl rfl) h1
  obtain ⟨n2, rfl, rfl, rfl, wf2⟩ := open_int Tryd.underlying2 (hval 2 2 v2 rfl rfl) h2
  clear hA0 hval0
  simp only [List.append_nil, List.nil_append] at hW' hlt
  refine (main_VanishAt n0 a1 cap1 ps1 hl1 hs1 n2 W hr1).mono fun e W' ⟨he, hg⟩ => ?_
  subst he
  have hk1 := Below.trod seatLaid (by kernel_rfl) (of_decide_eq_true (by kernel_rfl)) h1k hg (fun x hx => hlt x (by simp [hx]))
  exact ⟨_, rfl, shut_reads (pa := p1) hW' (fun _ _ _ => (trodAll_cons_mk (shut_bool Tryd.underlying4 _) trodAll_mk0)) (by have h := (trodAll_cons_mk (shut_int Tryd.underlying2 wf0) (trodAll_cons_mk hk1 (trodAll_cons_mk (shut_int Tryd.underlying2 wf2) trodAll_mk0))); simp only [List.append_nil, List.nil_append] at h; exact h) (fun _ => rfl) hg⟩
end fnExactVanishAt
end Go.Proofs.YtngpnbdndkddlaaDoor
