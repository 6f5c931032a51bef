/-
  'FnExactPutTerm' returns true at every input: the program's PutTerm and its model's return the same series and code, in memory of its own, and the arguments read as before. No condition.
-/
import Derived.Test.YtbhbcjaaomdlaaaLawPutTerm
import Derived.Test.YtbhbcjaaomdlaaaPutS
namespace Go.Proofs.Ytbhbcjaaomdlaaa
open Go.ChangeShapes Go.WideShapes Go.ChangeAt Go.RowKit
open Go.ChangeMaps (open_string shut_string)

theorem main_PutTerm (L V : Int) (a : Option Addr) (cap : Nat) (ts : List Tm) (hl : ts.length ≤ maxLen) (hs : ∀ i (h : i < ts.length), (ts[i]).s.size ≤ maxLen) (s : ByteArray) (hz : s.size ≤ maxLen) (n d : Int) (w : World) (hr : Row w a ts) :
    Calls Try.prog 5 #[.agg #[.int .i64 L, .int .i64 V, .slice a ts.length cap], .string s, .agg #[.int .i64 n, .int .i64 d]] w fun e w' => e = .returned (.bool true) ∧ Below w.heap.size w w' := by
  have law := law_PutTerm L V a cap ts hl hs s hz n d w hr
  cases h1 : serB L V ts with
  | false => exact law 0 0 1 [] (by simp) (fun W g q p t => sPut_1 L V g ts s n d W h1 q hs hz p t) (fun W g q p t => iPut_1 L V g ts s n d W h1 q hs hz p t)
  | true =>
    cases h2 : isF n d with
    | false => exact law 0 0 1 [] (by simp) (fun W g q p t => sPut_2 L V g ts s n d W h1 h2 q hs hz p t) (fun W g q p t => iPut_2 L V g ts s n d W h1 h2 q hs hz p t)
    | true =>
      cases h3 : wordOk L V s with
      | false =>
        refine law 0 0 2 [] (by simp) (fun W g q p t => ?_) (fun W g q p t => iPut_3 L V g ts s n d W h1 h2 h3 q hs hz p t)
        by_cases h4 : V < (s.size : Int)
        · exact sPut_3a L V g ts s n d W h1 h2 h4 q hs hz p t
        · have h5 : wordB L s.data.toList = false := by
            unfold wordOk at h3
            rwa [show decide ((s.size : Int) ≤ V) = true from by simpa using h4, Bool.true_and] at h3
          exact sPut_3b L V g ts s n d W h1 h2 h4 h5 q hs hz p t
      | true =>
        have h4 := h3
        unfold wordOk at h4
        simp only [Bool.and_eq_true, decide_eq_true_eq] at h4
        have hsh : shapeB L V = true := by unfold serB at h1; rw [Bool.and_eq_true] at h1; exact h1.1
        have hV := shape_out hsh
        obtain ⟨rs, hp, hlen, hmem⟩ := putL_some ⟨s, n, d⟩ (othL s ts) oth_ne
        by_cases hbig : ts.length ≤ 1048576
        · have hrl : rs.length ≤ 4194304 := by have : (othL s ts).length ≤ ts.length := List.length_filter_le _ _; omega
          have hrs : ∀ t ∈ rs, t.s.size ≤ 1048576 := fun t ht => by
            rcases hmem t ht with h | h
            · have := ser_small h1 t (oth_mem h); omega
            · subst h; show s.size ≤ 1048576; omega
          exact law L V 0 rs hrl (fun W g q p t => sPut_4 L V g ts s n d W rs h1 h2 (by omega) h4.2 hp q hs hz p t) (fun W g q p t => iPut_4 L V g ts s n d W rs h1 h2 h3 hp hrl hrs q hs hz p t)
        · exact law 0 0 0 [] (by simp) (fun W g q _ _ => absurd q hbig) (fun W g q _ _ => absurd q hbig)

namespace fnExactPutTerm
set_option maxRecDepth 100000 in
theorem lifted (os : Os) (started : os.Started) (H : Type) (enc : TypeId × Value → H) :
    ReturnsInHanded {} Try.checked os 5 .any (Rows.fnExactPutTermSpec.pre6 enc Try.prog Try.f5 Rows.fnExactPutTermRow.domain false) (Rows.fnExactPutTermSpec.post enc Try.prog Try.f5 false true false false) := by
  refine returnsInHanded_of_change (C := Try.checked) seatOwn started (by kernel_rfl) Try.func5
    (ChangeSpec.witness6 (enc := enc) (C := Try.checked) false ⟨#[], #[.agg #[.int .i64 0, .int .i64 0, .slice none 0 0], .string ByteArray.empty, .agg #[.int .i64 0, .int .i64 0]], []⟩ 8 (by kernel_rfl) (by kernel_rfl) (by kernel_rfl) (by kernel_rfl)) ?_
  intro W base args ds gs before hval0 hW _ _
  have hval : ∀ (j : Nat) t v, Try.f5.params[j]? = some t → args[j]? = some v → Value.okWide Try.prog W .any base t v := hval0
  have hW' := hW
  have hlt : ∀ x ∈ before, x.block < W.heap.size := fun x hx => hW.lt x hx
  obtain ⟨p, q, hA0, hV, rfl, _, _⟩ := hW
  have hA : DataW.TrodAll enc Try.prog W 0 (fun _ => true) true Try.f5.params.toList args.toList ds p := hA0
  rw [Try.params5] at hA hval
  obtain ⟨v0, vs0, d00, ds0, p0, q0, hargs, rfl, rfl, h0, r0⟩ := trodAll_cons hA
  obtain ⟨v1, vs1, d10, ds1, p1, q1, rfl, rfl, rfl, h1, r1⟩ := trodAll_cons r0
  obtain ⟨v2, vs2, d20, ds2, p2, q2, rfl, rfl, rfl, h2, r2⟩ := trodAll_cons r1
  obtain ⟨rfl, rfl, rfl⟩ := trodAll_nil r2
  obtain rfl : args = #[v0, v1, v2] := by cases args; simp_all
  obtain ⟨rfl, rfl⟩ := trodVars_none hV
  have h0k := h0
  obtain ⟨L0, V0, a0, cap0, ts0, rfl, hl0, hs0, hr0⟩ := open_series (hval 0 24 v0 rfl rfl) h0
  obtain ⟨s1, rfl, rfl, rfl, wf1⟩ := open_string Try.underlying9 (hval 1 9 v1 rfl rfl) h1
  obtain ⟨c2, e2, y2, z2, m2, rfl, rfl, rfl, hy2, hz2⟩ := Joins.open_agg2 Try.underlying36 (by kernel_rfl) lawsFraction_cells (hval 2 36 v2 rfl rfl) h2
  obtain ⟨n2, q02, rfl, wn2⟩ := DataW.trod_int Try.underlying2 hy2
  obtain ⟨d2, q12, rfl, wd2⟩ := DataW.trod_int Try.underlying2 hz2
  simp at q02 q12
  subst q02 q12
  clear hA0 hval0
  simp only [List.append_nil] at hW' hlt
  refine (main_PutTerm L0 V0 a0 cap0 ts0 hl0 hs0 s1 wf1 n2 d2 W hr0).mono fun e W' ⟨he, hg⟩ => ?_
  subst he
  have hk0 := Below.trod seatLaid (by kernel_rfl) (of_decide_eq_true (by kernel_rfl)) h0k hg (fun x hx => hlt x (by simp [hx]))
  exact ⟨_, rfl, shut_reads (pa := p0) hW' (fun _ _ _ => (trodAll_cons_mk (shut_bool Try.underlying4 _) trodAll_mk0)) (by have h := (trodAll_cons_mk hk0 (trodAll_cons_mk (shut_string Try.underlying9 wf1) (trodAll_cons_mk (shut_frac wn2 wd2 _ _ _ _) trodAll_mk0))); simp only [List.append_nil] at h; exact h) (fun _ => rfl) hg⟩

theorem over : Rows.fnExactPutTermRow.holds Try.pinned (OpenSpec.ofChange Rows.fnExactPutTermSpec) :=
  OpenClaim.holds_of_wide 5 Try.f5 rfl rfl rfl rfl rfl rfl rfl ⟨rfl, rfl, rfl, rfl, rfl⟩ rfl rfl rfl rfl rfl (by kernel_rfl) Try.func5 (by kernel_rfl)
    (of_decide_eq_true (by kernel_rfl)) (by unfold Func.isWrapper; first | (rw [if_pos (by decide +kernel)]; kernel_rfl) | (rw [if_neg (by decide +kernel)]; exact ⟨rfl, rfl⟩))
    (fun os started H enc _ => lifted os started H enc)

theorem proved : Rows.FnExactPutTermSaid := over
end fnExactPutTerm
end Go.Proofs.Ytbhbcjaaomdlaaa
