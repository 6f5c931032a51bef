/-
  'FnExactNumberOfWord' returns true at every input: the program's NumberOfWord and its model's return the same number and code. No condition.
-/
import Derived.Test.YtgelajjjghboaaaNumW
import Derived.Test.YtgelajjjghboaaaShut
namespace Go.Proofs.Ytgelajjjghboaaa
open Go.ChangeShapes Go.WideShapes Go.ChangeAt Go.RowKit
open Go.ChangeMaps (open_string shut_string)

theorem law_NumberOfWord (d : Int) (s : ByteArray) (hs : s.size ≤ maxLen) (w : World) :
    Calls Try.prog 9 #[.int .i64 d, .string s] w fun e w' => e = .returned (.bool true) ∧ Below w.heap.size w w' := by
  by_cases hbig : (1048576 : Int) < (s.size : Int)
  · go_enter Try.func9, Try.ntmps9
    go_wp2
    go_ret
    exact ⟨rfl, Below.refl _ _⟩
  by_cases hg : (1 ≤ d ∧ d ≤ 3) ∧ s.size ≤ 5 ∧ wordB d s.data.toList = true
  · obtain ⟨h1, h2, h3⟩ := hg
    have H3 := Lib.hid h3
    clear h3
    go_enter Try.func9, Try.ntmps9
    go_wp2_with (first | (go_at_call 26; refine (sNum_good _ _ h1 h2 H3.out _).mono ?_; rintro e w' ⟨rfl, rfl⟩) | (go_at_call 27; refine (iNum_good _ _ h1 h2 H3.out _).mono ?_; rintro e w' ⟨rfl, rfl⟩))
    go_ret
    exact ⟨rfl, Below.refl _ _⟩
  · have hb : ¬ (1 ≤ d ∧ d ≤ 3) ∨ ¬ s.size ≤ 5 ∨ wordB d s.data.toList = false := by
      by_cases a : 1 ≤ d ∧ d ≤ 3
      · by_cases b : s.size ≤ 5
        · cases hw : wordB d s.data.toList with
          | false => exact .inr (.inr rfl)
          | true => exact absurd ⟨a, b, hw⟩ hg
        · exact .inr (.inl b)
      · exact .inl a
    have HB := Lib.hid hb
    clear hb hg
    go_enter Try.func9, Try.ntmps9
    go_wp2_with (first | (go_at_call 26; refine (sNum_bad _ _ hs HB.out _).mono ?_; rintro e w' ⟨rfl, rfl⟩) | (go_at_call 27; refine (iNum_bad _ _ hs HB.out _).mono ?_; rintro e w' ⟨rfl, rfl⟩))
    go_ret
    exact ⟨rfl, Below.refl _ _⟩
namespace fnExactNumberOfWord
set_option maxRecDepth 100000 in
theorem lifted (os : Os) (started : os.Started) (H : Type) (enc : TypeId × Value → H) :
    ReturnsInHanded {} Try.checked os 9 .any (Rows.fnExactNumberOfWordSpec.pre6 enc Try.prog Try.f9 Rows.fnExactNumberOfWordRow.domain false) (Rows.fnExactNumberOfWordSpec.post enc Try.prog Try.f9 false true false false) := by
  refine returnsInHanded_of_change (C := Try.checked) seatOwn started (by kernel_rfl) Try.func9
    (ChangeSpec.witness6 (enc := enc) (C := Try.checked) false ⟨#[], #[.int .i64 0, .string ByteArray.empty], []⟩ 8 (by kernel_rfl) (by kernel_rfl) (by kernel_rfl) (by kernel_rfl)) ?_
  intro W base args ds gs before hval0 hW _ _
  have hval : ∀ (j : Nat) t v, Try.f9.params[j]? = some t → args[j]? = some v → Value.okWide Try.prog W .any base t v := hval0
  have hW' := hW
  obtain ⟨p, q, hA0, hV, rfl, _, _⟩ := hW
  have hA : DataW.TrodAll enc Try.prog W 0 (fun _ => true) true Try.f9.params.toList args.toList ds p := hA0
  rw [Try.params9] at hA hval
  obtain ⟨v0, vs0, d00, ds0, p0, q0, hargs, rfl, rfl, h0, r0⟩ := trodAll_cons hA
  obtain ⟨v1, vs1, d10, ds1, p1, q1, rfl, rfl, rfl, h1, r1⟩ := trodAll_cons r0
  obtain ⟨rfl, rfl, rfl⟩ := trodAll_nil r1
  obtain rfl : args = #[v0, v1] := by cases args; simp_all
  obtain ⟨rfl, rfl⟩ := trodVars_none hV
  obtain ⟨a0, rfl, rfl, rfl, wf0⟩ := open_int Try.underlying2 (hval 0 2 v0 rfl rfl) h0
  obtain ⟨a1, rfl, rfl, rfl, wf1⟩ := open_string Try.underlying9 (hval 1 9 v1 rfl rfl) h1
  clear hA0 hval0
  simp only [List.append_nil] at hW'
  refine (law_NumberOfWord a0 a1 wf1 W).mono fun e W' ⟨he, hg⟩ => ?_
  subst he
  exact ⟨_, rfl, shut_below (pa := []) hW' (fun _ _ _ => (trodAll_cons_mk (shut_bool Try.underlying4 _) trodAll_mk0)) (fun sp _ => (trodAll_cons_mk (shut_int Try.underlying2 wf0) (trodAll_cons_mk (shut_string Try.underlying9 wf1) trodAll_mk0))) (fun _ => rfl)
    hg (ok_one (by kernel_rfl) rfl (okWide_bool_mk Try.underlying4 _))⟩

theorem over : Rows.fnExactNumberOfWordRow.holds Try.pinned (OpenSpec.ofChange Rows.fnExactNumberOfWordSpec) :=
  OpenClaim.holds_of_wide 9 Try.f9 rfl rfl rfl rfl rfl rfl rfl ⟨rfl, rfl, rfl, rfl, rfl⟩ rfl rfl rfl rfl rfl (by kernel_rfl) Try.func9 (by kernel_rfl)
    (of_decide_eq_true (by kernel_rfl)) (by unfold Func.isWrapper; first | (rw [if_pos (by decide +kernel)]; kernel_rfl) | (rw [if_neg (by decide +kernel)]; exact ⟨rfl, rfl⟩))
    (fun os started H enc _ => lifted os started H enc)

theorem proved : Rows.FnExactNumberOfWordSaid := over
end fnExactNumberOfWord
end Go.Proofs.Ytgelajjjghboaaa
