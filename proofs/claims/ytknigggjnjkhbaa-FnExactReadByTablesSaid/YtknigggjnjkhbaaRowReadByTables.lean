/-
  'FnExactReadByTables' returns true at every input: the program's ReadByTables and its model's return the same fraction and code, and the series reads as before. No condition.
-/
import Derived.Test.YtknigggjnjkhbaaLawReadByTables
import Derived.Test.YtknigggjnjkhbaaRbt
import Derived.Test.YtknigggjnjkhbaaOpenR
import Derived.ChangeMaps5
namespace Go.Proofs.Ytknigggjnjkhbaa
open Go.ChangeShapes Go.WideShapes Go.ChangeAt Go.RowKit
open Go.ChangeMaps (open_string shut_string)

open Go.ChangeMaps (open_string shut_string)
theorem main_ReadByTables (L V : Int) (a : Option Addr) (cap : Nat) (ts : List Tm) (hl : ts.length ≤ maxLen) (hs : ∀ i (h : i < ts.length), (ts[i]).s.size ≤ maxLen) (s : ByteArray) (hz : s.size ≤ maxLen) (w : World) (hr : Row w a ts) :
    Calls Try.prog 4 #[.agg #[.int .i64 L, .int .i64 V, .slice a ts.length cap], .string s] w fun e w' => e = .returned (.bool true) ∧ Below w.heap.size w w' := by
  have law := law_ReadByTables L V a cap ts hl hs s hz w hr
  cases h1 : serB L V ts with
  | false => exact law 0 0 1 (fun W g q hb ht => sRb_1 L V g ts q hs s hz h1 W hb ht) (fun W g q hb ht => iRb_1 L V g ts q hs s hz h1 W hb ht)
  | true =>
    have h5 := shape_out (show shapeB L V = true from by have h := h1; unfold serB at h; rw [Bool.and_eq_true] at h; exact h.1)
    cases h2 : wordB L s.data.toList with
    | false => exact law 0 0 1 (fun W g q hb ht => sRb_2 L V g ts q hs s hz h1 h2 W hb ht) (fun W g q hb ht => iRb_2 L V g ts q hs s hz h1 h2 W hb ht)
    | true =>
      by_cases h3 : V < (s.size : Int)
      · exact law 0 0 2 (fun W g q hb ht => sRb_3 L V g ts q hs s hz h1 h2 h3 W hb ht) (fun W g q hb ht => iRb_3 L V g ts q hs s hz h1 h2 h3 W hb ht)
      · obtain ⟨D, rfl⟩ := Int.eq_ofNat_of_zero_le (show 0 ≤ L by omega)
        cases ho : valQ (s.size + 1) (wordT D s) ts ts.length with
        | none => exact law 0 0 3 (fun W g q hb ht => sRb_4 D V g ts q hs s h1 h2 (by omega) ho W hb ht) (fun W g q hb ht => iRb_4 D V g ts q hs s h1 h2 (by omega) ho W hb ht)
        | some F => exact law (F 0 s.size).1 (F 0 s.size).2 0 (fun W g q hb ht => sRb_5 D V g ts q hs s h1 h2 (by omega) F ho W hb ht) (fun W g q hb ht => iRb_5 D V g ts q hs s h1 h2 (by omega) F ho W hb ht)

namespace fnExactReadByTables
set_option maxRecDepth 100000 in
theorem lifted (os : Os) (started : os.Started) (H : Type) (enc : TypeId × Value → H) :
    ReturnsInHanded {} Try.checked os 4 .any (Rows.fnExactReadByTablesSpec.pre6 enc Try.prog Try.f4 Rows.fnExactReadByTablesRow.domain false) (Rows.fnExactReadByTablesSpec.post enc Try.prog Try.f4 false true false false) := by
  refine returnsInHanded_of_change (C := Try.checked) seatOwn started (by kernel_rfl) Try.func4
    (ChangeSpec.witness6 (enc := enc) (C := Try.checked) false ⟨#[], #[.agg #[.int .i64 0, .int .i64 0, .slice none 0 0], .string ByteArray.empty], []⟩ 8 (by kernel_rfl) (by kernel_rfl) (by kernel_rfl) (by kernel_rfl)) ?_
  intro W base args ds gs before hval0 hW _ _
  have hval : ∀ (j : Nat) t v, Try.f4.params[j]? = some t → args[j]? = some v → Value.okWide Try.prog W .any base t v := hval0
  have hW' := hW
  have hlt : ∀ x ∈ before, x.block < W.heap.size := fun x hx => hW.lt x hx
  obtain ⟨p, q, hA0, hV, rfl, _, _⟩ := hW
  have hA : DataW.TrodAll enc Try.prog W 0 (fun _ => true) true Try.f4.params.toList args.toList ds p := hA0
  rw [Try.params4] at hA hval
  obtain ⟨v0, vs0, d00, ds0, p0, q0, hargs, rfl, rfl, h0, r0⟩ := trodAll_cons hA
  obtain ⟨v1, vs1, d10, ds1, p1, q1, rfl, rfl, rfl, h1, r1⟩ := trodAll_cons r0
  obtain ⟨rfl, rfl, rfl⟩ := trodAll_nil r1
  obtain rfl : args = #[v0, v1] := by cases args; simp_all
  obtain ⟨rfl, rfl⟩ := trodVars_none hV
  have h0k := h0
  obtain ⟨L0, V0, a0, cap0, ts0, rfl, hl0, hs0, hr0⟩ := open_series (hval 0 24 v0 rfl rfl) h0
  obtain ⟨s1, rfl, rfl, rfl, wf1⟩ := open_string Try.underlying9 (hval 1 9 v1 rfl rfl) h1
  clear hA0 hval0
  simp only [List.append_nil] at hW' hlt
  refine (main_ReadByTables L0 V0 a0 cap0 ts0 hl0 hs0 s1 wf1 W hr0).mono fun e W' ⟨he, hg⟩ => ?_
  subst he
  have hk0 := Below.trod seatLaid (by kernel_rfl) (of_decide_eq_true (by kernel_rfl)) h0k hg (fun x hx => hlt x (by simp [hx]))
  exact ⟨_, rfl, shut_reads (pa := p0) hW' (fun _ _ _ => (trodAll_cons_mk (shut_bool Try.underlying4 _) trodAll_mk0)) (by have h := (trodAll_cons_mk hk0 (trodAll_cons_mk (shut_string Try.underlying9 wf1) trodAll_mk0)); simp only [List.append_nil] at h; exact h) (fun _ => rfl) hg⟩

theorem over : Rows.fnExactReadByTablesRow.holds Try.pinned (OpenSpec.ofChange Rows.fnExactReadByTablesSpec) :=
  OpenClaim.holds_of_wide 4 Try.f4 rfl rfl rfl rfl rfl rfl rfl ⟨rfl, rfl, rfl, rfl, rfl⟩ rfl rfl rfl rfl rfl (by kernel_rfl) Try.func4 (by kernel_rfl)
    (of_decide_eq_true (by kernel_rfl)) (by unfold Func.isWrapper; first | (rw [if_pos (by decide +kernel)]; kernel_rfl) | (rw [if_neg (by decide +kernel)]; exact ⟨rfl, rfl⟩))
    (fun os started H enc _ => lifted os started H enc)

theorem proved : Rows.FnExactReadByTablesSaid := over
end fnExactReadByTables
end Go.Proofs.Ytknigggjnjkhbaa
