/-
  'FnExactProductOfWord' returns true at every input: the program's ProductOfWord and its model's return the same list of lists and code, in memory of its own, and the tables read as before. No condition.
-/
import Derived.Test.YtngpnbdndkddlaaLawProductOfWord
import Derived.Test.YtngpnbdndkddlaaOpenT
namespace Go.Proofs.Ytngpnbdndkddlaa
open Go.ChangeShapes Go.WideShapes Go.ChangeAt Go.RowKit
open Go.ChangeMaps (open_string shut_string)

theorem main_ProductOfWord (n0 : Int) (a : Option Addr) (cap : Nat) (ts : Tabs) (hl : ts.length ≤ maxLen) (hs : ∀ i (h : i < ts.length), (ts[i]).length ≤ maxLen ∧ ∀ j (h2 : j < (ts[i]).length), ((ts[i])[j]).length ≤ maxLen) (s : ByteArray) (hz : s.size ≤ maxLen) (w : World) (hr : TRow 0 w.heap.size w a ts) :
    Calls Try.prog 5 #[.int .i64 n0, .slice a ts.length cap, .string s] w fun e w' => e = .returned (.bool true) ∧ Below w.heap.size w w' := by
  have law := law_ProductOfWord n0 s hz a cap ts hl hs w hr
  cases h : (tabsB n0 ts && wordB n0 s.data.toList) with
  | false => exact law [] 1 (by simp) (by simp [flat]) (fun W b k q1 q2 hr => sPw_1 _ _ n0 b k ts q1 q2 s hz W hr h) (fun W b k q1 q2 hr => iPw_1 _ _ n0 b k ts q1 q2 s hz W hr h)
  | true =>
    rw [Bool.and_eq_true] at h
    obtain ⟨h1, h2⟩ := h
    by_cases h3 : s.size ≤ 5
    · have hn := (tabs_sq h1).1
      cases h4 : alongK (wid ts) ts s s.size with
      | none => exact law [] 3 (by simp) (by simp [flat]) (fun W b k q1 q2 hr => sPw_3 _ _ n0 b k ts q1 q2 s hz W hr (Nat.le_refl _) h1 h2 h3 h4) (fun W b k q1 q2 hr => iPw_3 _ _ n0 b k ts q1 q2 s hz W hr (Nat.le_refl _) h1 h2 h3 h4)
      | some P =>
        have hf := flat_tabF hn.2 P
        exact law (tabF (wid ts) P) 0 (by rw [tabF_length]; omega) (by omega) (fun W b k q1 q2 hr => sPw_4 _ _ n0 b k ts q1 q2 s hz W hr (Nat.le_refl _) h1 h2 h3 P h4) (fun W b k q1 q2 hr => iPw_4 _ _ n0 b k ts q1 q2 s hz W hr (Nat.le_refl _) h1 h2 h3 P h4)
    · exact law [] 2 (by simp) (by simp [flat]) (fun W b k q1 q2 hr => sPw_2 _ _ n0 b k ts q1 q2 s hz W hr h1 h2 h3) (fun W b k q1 q2 hr => iPw_2 _ _ n0 b k ts q1 q2 s hz W hr h1 h2 h3)

namespace fnExactProductOfWord
set_option maxRecDepth 100000 in
theorem lifted (os : Os) (started : os.Started) (H : Type) (enc : TypeId × Value → H) :
    ReturnsInHanded {} Try.checked os 5 .any (Rows.fnExactProductOfWordSpec.pre6 enc Try.prog Try.f5 Rows.fnExactProductOfWordRow.domain false) (Rows.fnExactProductOfWordSpec.post enc Try.prog Try.f5 false true false false) := by
  refine returnsInHanded_of_change (C := Try.checked) seatOwn started (by kernel_rfl) Try.func5
    (ChangeSpec.witness6 (enc := enc) (C := Try.checked) false ⟨#[], #[.int .i64 0, .slice none 0 0, .string ByteArray.empty], []⟩ 8 (by kernel_rfl) (by kernel_rfl) (by kernel_rfl) (by kernel_rfl)) ?_
  intro W base args ds gs before hval0 hW _ _
  have hval : ∀ (j : Nat) t v, Try.f5.params[j]? = some t → args[j]? = some v → Value.okWide Try.prog W .any base t v := hval0
  have hW' := hW
  have hlt : ∀ x ∈ before, x.block < W.heap.size := fun x hx => hW.lt x hx
  obtain ⟨p, q, hA0, hV, rfl, _, _⟩ := hW
  have hA : DataW.TrodAll enc Try.prog W 0 (fun _ => true) true Try.f5.params.toList args.toList ds p := hA0
  rw [Try.params5] at hA hval
  obtain ⟨v0, vs0, d00, ds0, p0, q0, hargs, rfl, rfl, h0, r0⟩ := trodAll_cons hA
  obtain ⟨v1, vs1, d10, ds1, p1, q1, rfl, rfl, rfl, h1, r1⟩ := trodAll_cons r0
  obtain ⟨v2, vs2, d20, ds2, p2, q2, rfl, rfl, rfl, h2, r2⟩ := trodAll_cons r1
  obtain ⟨rfl, rfl, rfl⟩ := trodAll_nil r2
  obtain rfl : args = #[v0, v1, v2] := by cases args; simp_all
  obtain ⟨rfl, rfl⟩ := trodVars_none hV
  obtain ⟨n0, rfl, rfl, rfl, wf0⟩ := open_int Try.underlying2 (hval 0 2 v0 rfl rfl) h0
  have h1k := h1
  obtain ⟨a1, cap1, ps1, rfl, hl1, hs1, hr1⟩ := open_tabs (hval 1 22 v1 rfl rfl) h1
  obtain ⟨s2, rfl, rfl, rfl, wf2⟩ := open_string Try.underlying9 (hval 2 9 v2 rfl rfl) h2
  clear hA0 hval0
  simp only [List.append_nil, List.nil_append] at hW' hlt
  refine (main_ProductOfWord n0 a1 cap1 ps1 hl1 hs1 s2 wf2 W hr1).mono fun e W' ⟨he, hg⟩ => ?_
  subst he
  have hk1 := Below.trod seatLaid (by kernel_rfl) (of_decide_eq_true (by kernel_rfl)) h1k hg (fun x hx => hlt x (by simp [hx]))
  exact ⟨_, rfl, shut_reads (pa := p1) hW' (fun _ _ _ => (trodAll_cons_mk (shut_bool Try.underlying4 _) trodAll_mk0)) (by have h := (trodAll_cons_mk (shut_int Try.underlying2 wf0) (trodAll_cons_mk hk1 (trodAll_cons_mk (shut_string Try.underlying9 wf2) trodAll_mk0))); simp only [List.append_nil, List.nil_append] at h; exact h) (fun _ => rfl) hg⟩

theorem over : Rows.fnExactProductOfWordRow.holds Try.pinned (OpenSpec.ofChange Rows.fnExactProductOfWordSpec) :=
  OpenClaim.holds_of_wide 5 Try.f5 rfl rfl rfl rfl rfl rfl rfl ⟨rfl, rfl, rfl, rfl, rfl⟩ rfl rfl rfl rfl rfl (by kernel_rfl) Try.func5 (by kernel_rfl)
    (of_decide_eq_true (by kernel_rfl)) (by unfold Func.isWrapper; first | (rw [if_pos (by decide +kernel)]; kernel_rfl) | (rw [if_neg (by decide +kernel)]; exact ⟨rfl, rfl⟩))
    (fun os started H enc _ => lifted os started H enc)

theorem proved : Rows.FnExactProductOfWordSaid := over
end fnExactProductOfWord
end Go.Proofs.Ytngpnbdndkddlaa
