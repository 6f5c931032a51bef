/-
  'FnExactLetterSums' returns true at every input: the program's LetterSums and its model's agree in every field, the result lies in memory of its own, and the arguments read as before. No condition.
-/
import Derived.Test.YtnhiceopgjfaaaaOpenR
import Derived.Test.YtnhiceopgjfaaaaLawLetterSums
import Derived.Test.YtnhiceopgjfaaaaLsZ
namespace Go.Proofs.Ytnhiceopgjfaaaa
open Go.ChangeShapes Go.WideShapes Go.ChangeAt Go.RowKit

theorem main_LetterSums (n0 : Int) (a1 : Option Addr) (cap1 : Nat) (ps1 : List Int) (hl1 : ps1.length ≤ maxLen) (w : World) (hr1 : IRow 0 w.heap.size w a1 ps1) :
    Calls Try.prog 8 #[.int .i64 n0, .slice a1 ps1.length cap1] w fun e w' => e = .returned (.bool true) ∧ Below w.heap.size w w' := by
  have law := law_LetterSums n0 a1 cap1 ps1 hl1 w hr1
  cases h : grpB n0 ps1 with
  | false => exact law [] 2 (by simp) (fun W b k q hr => sLetterSums_1 n0 b k ps1 q W hr h) (fun W b k q hr => iLetterSums_1 n0 b k ps1 q W hr h)
  | true =>
    have hG := grpB_true h
    obtain ⟨D, rfl⟩ : ∃ D : Nat, n0 = (D : Int) := ⟨n0.toNat, by have := hG.d1; omega⟩
    have hD : D ≤ 3 := by have := hG.d3; omega
    exact law (endL (pthG D ps1) D) 0 (by simp [endL]; omega) (fun W b k q hr => sLetterSums_2 D b k ps1 q W hr h) (fun W b k q hr => iLetterSums_2 D b k ps1 q W hr h)

namespace fnExactLetterSums
set_option maxRecDepth 100000 in
theorem lifted (os : Os) (started : os.Started) (H : Type) (enc : TypeId × Value → H) :
    ReturnsInHanded {} Try.checked os 8 .any (Rows.fnExactLetterSumsSpec.pre6 enc Try.prog Try.f8 Rows.fnExactLetterSumsRow.domain false) (Rows.fnExactLetterSumsSpec.post enc Try.prog Try.f8 false true false false) := by
  refine returnsInHanded_of_change (C := Try.checked) seatOwn started (by kernel_rfl) Try.func8
    (ChangeSpec.witness6 (enc := enc) (C := Try.checked) false ⟨#[], #[.int .i64 0, .slice none 0 0], []⟩ 8 (by kernel_rfl) (by kernel_rfl) (by kernel_rfl) (by kernel_rfl)) ?_
  intro W base args ds gs before hval0 hW _ _
  have hval : ∀ (j : Nat) t v, Try.f8.params[j]? = some t → args[j]? = some v → Value.okWide Try.prog W .any base t v := hval0
  have hW' := hW
  have hlt : ∀ x ∈ before, x.block < W.heap.size := fun x hx => hW.lt x hx
  obtain ⟨p, q, hA0, hV, rfl, _, _⟩ := hW
  have hA : DataW.TrodAll enc Try.prog W 0 (fun _ => true) true Try.f8.params.toList args.toList ds p := hA0
  rw [Try.params8] at hA hval
  obtain ⟨v0, vs0, d00, ds0, p0, q0, hargs, rfl, rfl, h0, r0⟩ := trodAll_cons hA
  obtain ⟨v1, vs1, d10, ds1, p1, q1, rfl, rfl, rfl, h1, r1⟩ := trodAll_cons r0
  obtain ⟨rfl, rfl, rfl⟩ := trodAll_nil r1
  obtain rfl : args = #[v0, v1] := by cases args; simp_all
  obtain ⟨rfl, rfl⟩ := trodVars_none hV
  obtain ⟨n0, rfl, rfl, rfl, wf0⟩ := open_int Try.underlying2 (hval 0 2 v0 rfl rfl) h0
  have h1k := h1
  obtain ⟨a1, cap1, ps1, rfl, hl1, hr1⟩ := open_row (hval 1 22 v1 rfl rfl) h1
  clear hA0 hval0
  simp only [List.append_nil, List.nil_append] at hW' hlt
  refine (main_LetterSums n0 a1 cap1 ps1 hl1 W hr1).mono fun e W' ⟨he, hg⟩ => ?_
  subst he
  have hk1 := Below.trod seatLaid (by kernel_rfl) (of_decide_eq_true (by kernel_rfl)) h1k hg (fun x hx => hlt x (by simp [hx]))
  exact ⟨_, rfl, shut_reads (pa := p1) hW' (fun _ _ _ => (trodAll_cons_mk (shut_bool Try.underlying4 _) trodAll_mk0)) (by have h := (trodAll_cons_mk (shut_int Try.underlying2 wf0) (trodAll_cons_mk hk1 trodAll_mk0)); simp only [List.append_nil, List.nil_append] at h; exact h) (fun _ => rfl) hg⟩

theorem over : Rows.fnExactLetterSumsRow.holds Try.pinned (OpenSpec.ofChange Rows.fnExactLetterSumsSpec) :=
  OpenClaim.holds_of_wide 8 Try.f8 rfl rfl rfl rfl rfl rfl rfl ⟨rfl, rfl, rfl, rfl, rfl⟩ rfl rfl rfl rfl rfl (by kernel_rfl) Try.func8 (by kernel_rfl)
    (of_decide_eq_true (by kernel_rfl)) (by unfold Func.isWrapper; first | (rw [if_pos (by decide +kernel)]; kernel_rfl) | (rw [if_neg (by decide +kernel)]; exact ⟨rfl, rfl⟩))
    (fun os started H enc _ => lifted os started H enc)

theorem proved : Rows.FnExactLetterSumsSaid := over
end fnExactLetterSums
end Go.Proofs.Ytnhiceopgjfaaaa
