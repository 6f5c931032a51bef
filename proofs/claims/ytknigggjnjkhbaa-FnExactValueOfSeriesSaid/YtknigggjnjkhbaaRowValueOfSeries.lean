/-
  'FnExactValueOfSeries' returns true at every input: the program's ValueOfSeries and its model's return the same matrix and code, in memory of its own, and both arguments read as before. No condition.
-/
import Derived.Test.YtknigggjnjkhbaaVosR
import Derived.Test.YtknigggjnjkhbaaOpenT
import Derived.Test.YtknigggjnjkhbaaOpenR
namespace Go.Proofs.Ytknigggjnjkhbaa
open Go.ChangeShapes Go.WideShapes Go.ChangeAt Go.RowKit

theorem main_ValueOfSeries (L V : Int) (a : Option Addr) (cap : Nat) (xs : List Tm) (hl1 : xs.length ≤ maxLen) (hs1 : ∀ i (h : i < xs.length), (xs[i]).s.size ≤ maxLen) (aT : Option Addr) (cT : Nat) (ts : Tabs) (hl : ts.length ≤ maxLen) (hs : ∀ i (h : i < ts.length), (ts[i]).length ≤ maxLen ∧ ∀ j (h2 : j < (ts[i]).length), ((ts[i])[j]).length ≤ maxLen) (w : World) (hr1 : Row w a xs) (hr : TRow 0 w.heap.size w aT ts) :
    Calls Try.prog 3 #[.agg #[.int .i64 L, .int .i64 V, .slice a xs.length cap], .slice aT ts.length cT] w fun e w' => e = .returned (.bool true) ∧ Below w.heap.size w w' := by
  have law := law_ValueOfSeries L V a cap xs hl1 hs1 aT cT ts hl hs w hr1 hr
  cases h : (serB L V xs && tabsB L ts) with
  | false => exact law 0 zeroQ 1 (by omega) (fun W bX kX bT kT q1 q2 q3 r1 r2 => (sVos_1 0 W.heap.size L V bT kT ts q2 q3 bX kX xs q1 hs1 W r2 (Nat.le_refl _) r1 h).mono fun _ _ h => GQPost.err 1 h) (fun W bX kX bT kT q1 q2 q3 r1 r2 => (iVos_1 0 W.heap.size L V bT kT ts q2 q3 bX kX xs q1 hs1 W r2 (Nat.le_refl _) r1 h).mono fun _ _ h => GQPost.err 1 h)
  | true =>
    rw [Bool.and_eq_true] at h
    obtain ⟨h1, hT⟩ := h
    have hn := (tabs_sq hT).1
    cases ho : valQ (wid ts) ts xs xs.length with
    | none => exact law 0 zeroQ 3 (by omega) (fun W bX kX bT kT q1 q2 q3 r1 r2 => (sVos_2 0 W.heap.size L V bT kT ts q2 q3 bX kX xs q1 hs1 W r2 (Nat.le_refl _) r1 h1 hT).mono fun _ _ h => by rw [ho] at h; exact h.no) (fun W bX kX bT kT q1 q2 q3 r1 r2 => (iVos_2 0 W.heap.size L V bT kT ts q2 q3 bX kX xs q1 hs1 W r2 (Nat.le_refl _) r1 h1 hT).mono fun _ _ h => by rw [ho] at h; exact h.no)
    | some F => exact law (wid ts) F 0 hn.2 (fun W bX kX bT kT q1 q2 q3 r1 r2 => (sVos_2 0 W.heap.size L V bT kT ts q2 q3 bX kX xs q1 hs1 W r2 (Nat.le_refl _) r1 h1 hT).mono fun _ _ h => by rw [ho] at h; exact h.yes) (fun W bX kX bT kT q1 q2 q3 r1 r2 => (iVos_2 0 W.heap.size L V bT kT ts q2 q3 bX kX xs q1 hs1 W r2 (Nat.le_refl _) r1 h1 hT).mono fun _ _ h => by rw [ho] at h; exact h.yes)

namespace fnExactValueOfSeries
set_option maxRecDepth 100000 in
theorem lifted (os : Os) (started : os.Started) (H : Type) (enc : TypeId × Value → H) :
    ReturnsInHanded {} Try.checked os 3 .any (Rows.fnExactValueOfSeriesSpec.pre6 enc Try.prog Try.f3 Rows.fnExactValueOfSeriesRow.domain false) (Rows.fnExactValueOfSeriesSpec.post enc Try.prog Try.f3 false true false false) := by
  refine returnsInHanded_of_change (C := Try.checked) seatOwn started (by kernel_rfl) Try.func3
    (ChangeSpec.witness6 (enc := enc) (C := Try.checked) false ⟨#[], #[.agg #[.int .i64 0, .int .i64 0, .slice none 0 0], .slice none 0 0], []⟩ 8 (by kernel_rfl) (by kernel_rfl) (by kernel_rfl) (by kernel_rfl)) ?_
  intro W base args ds gs before hval0 hW _ _
  have hval : ∀ (j : Nat) t v, Try.f3.params[j]? = some t → args[j]? = some v → Value.okWide Try.prog W .any base t v := hval0
  have hW' := hW
  have hlt : ∀ x ∈ before, x.block < W.heap.size := fun x hx => hW.lt x hx
  obtain ⟨p, q, hA0, hV, rfl, _, _⟩ := hW
  have hA : DataW.TrodAll enc Try.prog W 0 (fun _ => true) true Try.f3.params.toList args.toList ds p := hA0
  rw [Try.params3] at hA hval
  obtain ⟨v0, vs0, d00, ds0, p0, q0, hargs, rfl, rfl, h0, r0⟩ := trodAll_cons hA
  obtain ⟨v1, vs1, d10, ds1, p1, q1, rfl, rfl, rfl, h1, r1⟩ := trodAll_cons r0
  obtain ⟨rfl, rfl, rfl⟩ := trodAll_nil r1
  obtain rfl : args = #[v0, v1] := by cases args; simp_all
  obtain ⟨rfl, rfl⟩ := trodVars_none hV
  have h0k := h0
  obtain ⟨L0, V0, a0, cap0, ts0, rfl, hl0, hs0, hr0⟩ := open_series (hval 0 24 v0 rfl rfl) h0
  have h1k := h1
  obtain ⟨a1, cap1, ps1, rfl, hl1, hs1, hr1⟩ := open_tabs (hval 1 25 v1 rfl rfl) h1
  clear hA0 hval0
  simp only [List.append_nil] at hW' hlt
  refine (main_ValueOfSeries L0 V0 a0 cap0 ts0 hl0 hs0 a1 cap1 ps1 hl1 hs1 W hr0 hr1).mono fun e W' ⟨he, hg⟩ => ?_
  subst he
  have hk0 := Below.trod seatLaid (by kernel_rfl) (of_decide_eq_true (by kernel_rfl)) h0k hg (fun x hx => hlt x (by simp [hx]))
  have hk1 := Below.trod seatLaid (by kernel_rfl) (of_decide_eq_true (by kernel_rfl)) h1k hg (fun x hx => hlt x (by simp [hx]))
  exact ⟨_, rfl, shut_reads (pa := p0 ++ p1) hW' (fun _ _ _ => (trodAll_cons_mk (shut_bool Try.underlying4 _) trodAll_mk0)) (by have h := (trodAll_cons_mk hk0 (trodAll_cons_mk hk1 trodAll_mk0)); simp only [List.append_nil] at h; exact h) (fun _ => rfl) hg⟩

theorem over : Rows.fnExactValueOfSeriesRow.holds Try.pinned (OpenSpec.ofChange Rows.fnExactValueOfSeriesSpec) :=
  OpenClaim.holds_of_wide 3 Try.f3 rfl rfl rfl rfl rfl rfl rfl ⟨rfl, rfl, rfl, rfl, rfl⟩ rfl rfl rfl rfl rfl (by kernel_rfl) Try.func3 (by kernel_rfl)
    (of_decide_eq_true (by kernel_rfl)) (by unfold Func.isWrapper; first | (rw [if_pos (by decide +kernel)]; kernel_rfl) | (rw [if_neg (by decide +kernel)]; exact ⟨rfl, rfl⟩))
    (fun os started H enc _ => lifted os started H enc)

theorem proved : Rows.FnExactValueOfSeriesSaid := over
end fnExactValueOfSeries
end Go.Proofs.Ytknigggjnjkhbaa
