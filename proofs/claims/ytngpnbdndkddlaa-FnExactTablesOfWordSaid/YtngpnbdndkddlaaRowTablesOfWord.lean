/-
  'FnExactTablesOfWord' returns true at every input: the program's TablesOfWord and its model's return the same tables and code, in memory of their own. No condition.
-/
import Derived.Test.YtngpnbdndkddlaaLawTablesOfWord
import Derived.Test.YtngpnbdndkddlaaOpen
namespace Go.Proofs.Ytngpnbdndkddlaa
open Go.ChangeShapes Go.WideShapes Go.ChangeAt Go.RowKit
open Go.ChangeMaps (open_string shut_string)

theorem sz3_wordT (d : Nat) (s : ByteArray) (hd : d ≤ 3) (hs : s.size ≤ 5) : sz3 (wordT d s) ≤ 1000 := by
  have hone : ∀ F : MF, (tabF (s.size + 1) F).length + flat (tabF (s.size + 1) F) ≤ 42 := fun F => by
    have h := flat_tabF (n := s.size + 1) (by omega) F
    rw [tabF_length]
    omega
  have key : ∀ k : Nat, sz3 ((List.range k).map fun q => tabF (s.size + 1) (wtF s q)) ≤ k * 42 := fun k => by
    induction k with
    | zero => simp [sz3]
    | succ k ih =>
      rw [List.range_succ, List.map_append, sz3_append]
      have h := hone (wtF s k)
      simp only [List.map_cons, List.map_nil, sz3]
      omega
  have h := key d
  unfold wordT
  omega

theorem main_TablesOfWord (n0 : Int) (s : ByteArray) (hz : s.size ≤ maxLen) (w : World) :
    Calls Try.prog 6 #[.int .i64 n0, .string s] w fun e w' => e = .returned (.bool true) ∧ Below w.heap.size w w' := by
  obtain ⟨c, hc⟩ : ∃ c : Int, (if inB n0 1 3 = true then (if wordB n0 s.data.toList = true then (if s.size ≤ 5 then (0 : Int) else 2) else 1) else 2) = c := ⟨_, rfl⟩
  by_cases h0 : c = 0
  · subst h0
    have h1 : inB n0 1 3 = true := by
      cases h : inB n0 1 3 with
      | true => rfl
      | false => rw [h, if_neg (by simp)] at hc; exact absurd hc (by decide)
    rw [h1, if_pos rfl] at hc
    have h2 : wordB n0 s.data.toList = true := by
      cases h : wordB n0 s.data.toList with
      | true => rfl
      | false => rw [h, if_neg (by simp)] at hc; exact absurd hc (by decide)
    rw [h2, if_pos rfl] at hc
    have h3 : s.size ≤ 5 := by
      by_cases h : s.size ≤ 5
      · exact h
      · rw [if_neg h] at hc; exact absurd hc (by decide)
    have hb := inB_true h1
    obtain ⟨d, rfl⟩ : ∃ d : Nat, n0 = (d : Int) := ⟨n0.toNat, by omega⟩
    have hd : 1 ≤ d ∧ d ≤ 3 := by omega
    exact law_TablesOfWord (d : Int) s hz w (wordT d s) 0 (by rw [wordT_length]; omega) (by have := sz3_wordT d s hd.2 h3; omega) (fun W => sTw_2 d hd s h2 h3 W) (fun W => iTw_2 d hd s h2 h3 W)
  · exact law_TablesOfWord n0 s hz w [] c (by simp) (by simp [sz3]) (fun W => sTw_1 n0 s hz c hc h0 W) (fun W => iTw_1 n0 s hz c hc h0 W)

namespace fnExactTablesOfWord
set_option maxRecDepth 100000 in
theorem lifted (os : Os) (started : os.Started) (H : Type) (enc : TypeId × Value → H) :
    ReturnsInHanded {} Try.checked os 6 .any (Rows.fnExactTablesOfWordSpec.pre6 enc Try.prog Try.f6 Rows.fnExactTablesOfWordRow.domain false) (Rows.fnExactTablesOfWordSpec.post enc Try.prog Try.f6 false true false false) := by
  refine returnsInHanded_of_change (C := Try.checked) seatOwn started (by kernel_rfl) Try.func6
    (ChangeSpec.witness6 (enc := enc) (C := Try.checked) false ⟨#[], #[.int .i64 0, .string ByteArray.empty], []⟩ 8 (by kernel_rfl) (by kernel_rfl) (by kernel_rfl) (by kernel_rfl)) ?_
  intro W base args ds gs before hval0 hW _ _
  have hval : ∀ (j : Nat) t v, Try.f6.params[j]? = some t → args[j]? = some v → Value.okWide Try.prog W .any base t v := hval0
  have hW' := hW
  have hlt : ∀ x ∈ before, x.block < W.heap.size := fun x hx => hW.lt x hx
  obtain ⟨p, q, hA0, hV, rfl, _, _⟩ := hW
  have hA : DataW.TrodAll enc Try.prog W 0 (fun _ => true) true Try.f6.params.toList args.toList ds p := hA0
  rw [Try.params6] at hA hval
  obtain ⟨v0, vs0, d00, ds0, p0, q0, hargs, rfl, rfl, h0, r0⟩ := trodAll_cons hA
  obtain ⟨v1, vs1, d10, ds1, p1, q1, rfl, rfl, rfl, h1, r1⟩ := trodAll_cons r0
  obtain ⟨rfl, rfl, rfl⟩ := trodAll_nil r1
  obtain rfl : args = #[v0, v1] := by cases args; simp_all
  obtain ⟨rfl, rfl⟩ := trodVars_none hV
  obtain ⟨n0, rfl, rfl, rfl, wf0⟩ := open_int Try.underlying2 (hval 0 2 v0 rfl rfl) h0
  obtain ⟨s1, rfl, rfl, rfl, wf1⟩ := open_string Try.underlying9 (hval 1 9 v1 rfl rfl) h1
  clear hA0 hval0
  simp only [List.append_nil] at hW' hlt
  refine (main_TablesOfWord n0 s1 wf1 W ).mono fun e W' ⟨he, hg⟩ => ?_
  subst he
  exact ⟨_, rfl, shut_reads (pa := []) hW' (fun _ _ _ => (trodAll_cons_mk (shut_bool Try.underlying4 _) trodAll_mk0)) (trodAll_cons_mk (shut_int Try.underlying2 wf0) (trodAll_cons_mk (shut_string Try.underlying9 wf1) trodAll_mk0)) (fun _ => rfl) hg⟩

theorem over : Rows.fnExactTablesOfWordRow.holds Try.pinned (OpenSpec.ofChange Rows.fnExactTablesOfWordSpec) :=
  OpenClaim.holds_of_wide 6 Try.f6 rfl rfl rfl rfl rfl rfl rfl ⟨rfl, rfl, rfl, rfl, rfl⟩ rfl rfl rfl rfl rfl (by kernel_rfl) Try.func6 (by kernel_rfl)
    (of_decide_eq_true (by kernel_rfl)) (by unfold Func.isWrapper; first | (rw [if_pos (by decide +kernel)]; kernel_rfl) | (rw [if_neg (by decide +kernel)]; exact ⟨rfl, rfl⟩))
    (fun os started H enc _ => lifted os started H enc)

theorem proved : Rows.FnExactTablesOfWordSaid := over
end fnExactTablesOfWord
end Go.Proofs.Ytngpnbdndkddlaa
