/-
  'FnExactWeakSum' returns true at every input: the program's WeakSum and its model's agree in every field, and the arguments read as before. No condition.
-/
import Derived.Test.YtncodnjnndjjaaaOpenP
import Derived.Test.YtncodnjnndjjaaaLawWeakSum
import Derived.Test.YtncodnjnndjjaaaItT
import Derived.ChangeMaps5
namespace Go.Proofs.Ytncodnjnndjjaaa
open Go.ChangeShapes Go.WideShapes Go.ChangeAt Go.RowKit
open Go.ChangeMaps (open_string shut_string)

theorem main_WeakSum (n0 : Int) (a1 : Option Addr) (c1 : Nat) (ps1 : List (List Int)) (hl1 : ps1.length ≤ maxLen) (hs1 : ∀ i (h : i < ps1.length), (ps1[i]).length ≤ maxLen) (s2 : ByteArray) (hz2 : s2.size ≤ maxLen) (w : World) (hr1 : PRow 0 w.heap.size w a1 ps1) :
    Calls Try.prog 4 #[.int .i64 n0, .slice a1 ps1.length c1, .string s2] w fun e w' => e = .returned (.bool true) ∧ Below w.heap.size w w' := by
  have law := law_WeakSum n0 a1 c1 ps1 hl1 hs1 s2 hz2 w hr1
  cases h : pathB n0 ps1 with
  | false => exact law 0 1 (fun W b k z q1 q2 hr => sWeakSum_1 0 W.heap.size n0 b k ps1 s2 z q1 q2 W hr h) (fun W b k z q1 q2 hr => iWeakSum_1 0 W.heap.size n0 b k ps1 s2 z q1 q2 W hr h)
  | true =>
    obtain ⟨D, rfl, hP⟩ := small_of h
    cases hw : wordB (D : Int) s2.data.toList with
    | false => exact law 0 1 (fun W b k z q1 q2 hr => sWeakSum_2 0 W.heap.size D b k ps1 s2 z q1 q2 W hr h hw) (fun W b k z q1 q2 hr => iWeakSum_2 0 W.heap.size D b k ps1 s2 z q1 q2 W hr h hw)
    | true =>
      by_cases h5 : s2.size ≤ 5
      · exact law (sumS true ps1 (letsN s2)) 0 (fun W b k z q1 q2 hr => sWeakSum_4 0 W.heap.size D b k ps1 s2 z q1 q2 W hr (Nat.le_refl _) h hP hw h5) (fun W b k z q1 q2 hr => iWeakSum_4 0 W.heap.size D b k ps1 s2 z q1 q2 W hr (Nat.le_refl _) h hP hw h5)
      · exact law 0 2 (fun W b k z q1 q2 hr => sWeakSum_3 0 W.heap.size D b k ps1 s2 z q1 q2 W hr h hw h5) (fun W b k z q1 q2 hr => iWeakSum_3 0 W.heap.size D b k ps1 s2 z q1 q2 W hr h hw h5)

namespace fnExactWeakSum
set_option maxRecDepth 100000 in
theorem lifted (os : Os) (started : os.Started) (H : Type) (enc : TypeId × Value → H) :
    ReturnsInHanded {} Try.checked os 4 .any (Rows.fnExactWeakSumSpec.pre6 enc Try.prog Try.f4 Rows.fnExactWeakSumRow.domain false) (Rows.fnExactWeakSumSpec.post enc Try.prog Try.f4 false true false false) := by
  refine returnsInHanded_of_change (C := Try.checked) seatOwn started (by kernel_rfl) Try.func4
    (ChangeSpec.witness6 (enc := enc) (C := Try.checked) false ⟨#[], #[.int .i64 0, .slice none 0 0, .string ByteArray.empty], []⟩ 8 (by kernel_rfl) (by kernel_rfl) (by kernel_rfl) (by kernel_rfl)) ?_
  intro W base args ds gs before hval0 hW _ _
  have hval : ∀ (j : Nat) t v, Try.f4.params[j]? = some t → args[j]? = some v → Value.okWide Try.prog W .any base t v := hval0
  have hW' := hW
  have hlt : ∀ x ∈ before, x.block < W.heap.size := fun x hx => hW.lt x hx
  obtain ⟨p, q, hA0, hV, rfl, _, _⟩ := hW
  have hA : DataW.TrodAll enc Try.prog W 0 (fun _ => true) true Try.f4.params.toList args.toList ds p := hA0
  rw [Try.params4] at hA hval
  obtain ⟨v0, vs0, d00, ds0, p0, q0, hargs, rfl, rfl, h0, r0⟩ := trodAll_cons hA
  obtain ⟨v1, vs1, d10, ds1, p1, q1, rfl, rfl, rfl, h1, r1⟩ := trodAll_cons r0
  obtain ⟨v2, vs2, d20, ds2, p2, q2, rfl, rfl, rfl, h2, r2⟩ := trodAll_cons r1
  obtain ⟨rfl, rfl, rfl⟩ := trodAll_nil r2
  obtain rfl : args = #[v0, v1, v2] := by cases args; simp_all
  obtain ⟨rfl, rfl⟩ := trodVars_none hV
  obtain ⟨n0, rfl, rfl, rfl, wf0⟩ := open_int Try.underlying2 (hval 0 2 v0 rfl rfl) h0
  have h1k := h1
  obtain ⟨a1, cap1, ps1, rfl, hl1, hs1, hr1⟩ := open_path (hval 1 22 v1 rfl rfl) h1
  obtain ⟨s2, rfl, rfl, rfl, wf2⟩ := open_string Try.underlying9 (hval 2 9 v2 rfl rfl) h2
  clear hA0 hval0
  simp only [List.append_nil, List.nil_append] at hW' hlt
  refine (main_WeakSum n0 a1 cap1 ps1 hl1 hs1 s2 wf2 W hr1).mono fun e W' ⟨he, hg⟩ => ?_
  subst he
  have hk1 := Below.trod seatLaid (by kernel_rfl) (of_decide_eq_true (by kernel_rfl)) h1k hg (fun x hx => hlt x (by simp [hx]))
  exact ⟨_, rfl, shut_reads (pa := p1) hW' (fun _ _ _ => (trodAll_cons_mk (shut_bool Try.underlying4 _) trodAll_mk0)) (by have h := (trodAll_cons_mk (shut_int Try.underlying2 wf0) (trodAll_cons_mk hk1 (trodAll_cons_mk (shut_string Try.underlying9 wf2) trodAll_mk0))); simp only [List.append_nil, List.nil_append] at h; exact h) (fun _ => rfl) hg⟩

theorem over : Rows.fnExactWeakSumRow.holds Try.pinned (OpenSpec.ofChange Rows.fnExactWeakSumSpec) :=
  OpenClaim.holds_of_wide 4 Try.f4 rfl rfl rfl rfl rfl rfl rfl ⟨rfl, rfl, rfl, rfl, rfl⟩ rfl rfl rfl rfl rfl (by kernel_rfl) Try.func4 (by kernel_rfl)
    (of_decide_eq_true (by kernel_rfl)) (by unfold Func.isWrapper; first | (rw [if_pos (by decide +kernel)]; kernel_rfl) | (rw [if_neg (by decide +kernel)]; exact ⟨rfl, rfl⟩))
    (fun os started H enc _ => lifted os started H enc)

theorem proved : Rows.FnExactWeakSumSaid := over
end fnExactWeakSum
end Go.Proofs.Ytncodnjnndjjaaa
