/-
  'FnExactWithoutRests' returns true at every input: the program's WithoutRests and its model's agree in every field, the result lies in memory of its own, and the arguments read as before. No condition.
-/
import Derived.Test.YtncodnjnndjjaaaOpenP
import Derived.Test.YtncodnjnndjjaaaLawWithoutRests
import Derived.Test.YtncodnjnndjjaaaRsD
namespace Go.Proofs.Ytncodnjnndjjaaa
open Go.ChangeShapes Go.WideShapes Go.ChangeAt Go.RowKit

theorem main_WithoutRests (n0 : Int) (a1 : Option Addr) (c1 : Nat) (ps1 : List (List Int)) (hl1 : ps1.length ≤ maxLen) (hs1 : ∀ i (h : i < ps1.length), (ps1[i]).length ≤ maxLen) (w : World) (hr1 : PRow 0 w.heap.size w a1 ps1) :
    Calls Try.prog 7 #[.int .i64 n0, .slice a1 ps1.length c1] w fun e w' => e = .returned (.bool true) ∧ Below w.heap.size w w' := by
  have law := law_WithoutRests n0 a1 c1 ps1 hl1 hs1 w hr1
  cases h : pathB n0 ps1 with
  | false => exact law [] 1 (by simp) (by simp [flat]) (fun W b k q1 q2 hr => sRests_1 0 W.heap.size n0 b k ps1 q1 q2 W hr h) (fun W b k q1 q2 hr => iRests_1 0 W.heap.size n0 b k ps1 q1 q2 W hr h)
  | true =>
    obtain ⟨D, rfl, hP⟩ := small_of h
    have hl := dropR_len ps1 ps1.length
    rw [List.take_length] at hl
    have h12 := hP.1
    have hf : flat (dropR ps1) ≤ 1048576 := by
      rw [← dropM_of hP.2.2.1 (ps := ps1) (fun p hp => by obtain ⟨i, hi, rfl⟩ := List.mem_iff_getElem.1 hp; exact hP.len hi), flat_steps hP.2.2.1]
      have hm := dropM_len (ps1.map mvOf) (ps1.map mvOf).length
      rw [List.take_length, List.length_map] at hm
      have := Nat.mul_le_mul hP.2.2.1 (Nat.le_trans hm h12)
      omega
    exact law (dropR ps1) 0 (by omega) hf (fun W b k _ q2 hr => sRests_2 0 W.heap.size D b k ps1 q2 W hr (Nat.le_refl _) h hP) (fun W b k _ q2 hr => iRests_2 0 W.heap.size D b k ps1 q2 W hr (Nat.le_refl _) h hP)

namespace fnExactWithoutRests
set_option maxRecDepth 100000 in
theorem lifted (os : Os) (started : os.Started) (H : Type) (enc : TypeId × Value → H) :
    ReturnsInHanded {} Try.checked os 7 .any (Rows.fnExactWithoutRestsSpec.pre6 enc Try.prog Try.f7 Rows.fnExactWithoutRestsRow.domain false) (Rows.fnExactWithoutRestsSpec.post enc Try.prog Try.f7 false true false false) := by
  refine returnsInHanded_of_change (C := Try.checked) seatOwn started (by kernel_rfl) Try.func7
    (ChangeSpec.witness6 (enc := enc) (C := Try.checked) false ⟨#[], #[.int .i64 0, .slice none 0 0], []⟩ 8 (by kernel_rfl) (by kernel_rfl) (by kernel_rfl) (by kernel_rfl)) ?_
  intro W base args ds gs before hval0 hW _ _
  have hval : ∀ (j : Nat) t v, Try.f7.params[j]? = some t → args[j]? = some v → Value.okWide Try.prog W .any base t v := hval0
  have hW' := hW
  have hlt : ∀ x ∈ before, x.block < W.heap.size := fun x hx => hW.lt x hx
  obtain ⟨p, q, hA0, hV, rfl, _, _⟩ := hW
  have hA : DataW.TrodAll enc Try.prog W 0 (fun _ => true) true Try.f7.params.toList args.toList ds p := hA0
  rw [Try.params7] at hA hval
  obtain ⟨v0, vs0, d00, ds0, p0, q0, hargs, rfl, rfl, h0, r0⟩ := trodAll_cons hA
  obtain ⟨v1, vs1, d10, ds1, p1, q1, rfl, rfl, rfl, h1, r1⟩ := trodAll_cons r0
  obtain ⟨rfl, rfl, rfl⟩ := trodAll_nil r1
  obtain rfl : args = #[v0, v1] := by cases args; simp_all
  obtain ⟨rfl, rfl⟩ := trodVars_none hV
  obtain ⟨n0, rfl, rfl, rfl, wf0⟩ := open_int Try.underlying2 (hval 0 2 v0 rfl rfl) h0
  have h1k := h1
  obtain ⟨a1, cap1, ps1, rfl, hl1, hs1, hr1⟩ := open_path (hval 1 22 v1 rfl rfl) h1
  clear hA0 hval0
  simp only [List.append_nil, List.nil_append] at hW' hlt
  refine (main_WithoutRests n0 a1 cap1 ps1 hl1 hs1 W hr1).mono fun e W' ⟨he, hg⟩ => ?_
  subst he
  have hk1 := Below.trod seatLaid (by kernel_rfl) (of_decide_eq_true (by kernel_rfl)) h1k hg (fun x hx => hlt x (by simp [hx]))
  exact ⟨_, rfl, shut_reads (pa := p1) hW' (fun _ _ _ => (trodAll_cons_mk (shut_bool Try.underlying4 _) trodAll_mk0)) (by have h := (trodAll_cons_mk (shut_int Try.underlying2 wf0) (trodAll_cons_mk hk1 trodAll_mk0)); simp only [List.append_nil, List.nil_append] at h; exact h) (fun _ => rfl) hg⟩

theorem over : Rows.fnExactWithoutRestsRow.holds Try.pinned (OpenSpec.ofChange Rows.fnExactWithoutRestsSpec) :=
  OpenClaim.holds_of_wide 7 Try.f7 rfl rfl rfl rfl rfl rfl rfl ⟨rfl, rfl, rfl, rfl, rfl⟩ rfl rfl rfl rfl rfl (by kernel_rfl) Try.func7 (by kernel_rfl)
    (of_decide_eq_true (by kernel_rfl)) (by unfold Func.isWrapper; first | (rw [if_pos (by decide +kernel)]; kernel_rfl) | (rw [if_neg (by decide +kernel)]; exact ⟨rfl, rfl⟩))
    (fun os started H enc _ => lifted os started H enc)

theorem proved : Rows.FnExactWithoutRestsSaid := over
end fnExactWithoutRests
end Go.Proofs.Ytncodnjnndjjaaa
