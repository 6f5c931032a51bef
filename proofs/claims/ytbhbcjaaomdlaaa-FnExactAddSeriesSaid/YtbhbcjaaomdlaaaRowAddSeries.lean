/-
  'FnExactAddSeries' returns true at every input: the program's AddSeries and its model's return the same series and code, in memory of its own, and both arguments read as before. No condition.
-/
import Derived.Test.YtbhbcjaaomdlaaaLawAddSeries
import Derived.Test.YtbhbcjaaomdlaaaAddSer
namespace Go.Proofs.Ytbhbcjaaomdlaaa
open Go.ChangeShapes Go.WideShapes Go.ChangeAt Go.RowKit
open Go.ChangeMaps (open_string shut_string)

theorem merge_mem : ∀ {xs ys r : List Tm}, mergeL xs ys = some r → ∀ t ∈ r, (∃ x ∈ xs, x.s = t.s) ∨ ∃ y ∈ ys, y.s = t.s
  | [], ys, r, h => by
    simp only [mergeL, Option.some.injEq] at h
    subst h
    exact fun t ht => .inr ⟨t, ht, rfl⟩
  | x :: xs, [], r, h => by
    simp only [mergeL, Option.some.injEq] at h
    subst h
    exact fun t ht => .inl ⟨t, ht, rfl⟩
  | x :: xs, y :: ys, r, h => by
    have up : ∀ {t : Tm}, ((∃ z ∈ xs, z.s = t.s) ∨ ∃ z ∈ y :: ys, z.s = t.s) → (∃ z ∈ x :: xs, z.s = t.s) ∨ ∃ z ∈ y :: ys, z.s = t.s := fun h => by
      rcases h with ⟨z, hz, e⟩ | h
      · exact .inl ⟨z, by simp [hz], e⟩
      · exact .inr h
    rw [mergeL] at h
    split at h
    · obtain ⟨r', h1, rfl⟩ := Option.map_eq_some_iff.1 h
      intro t ht
      rcases List.mem_cons.1 ht with rfl | ht
      · exact .inl ⟨t, by simp, rfl⟩
      · exact up (merge_mem h1 t ht)
    · split at h
      · split at h
        · obtain ⟨r', h1, rfl⟩ := Option.map_eq_some_iff.1 h
          intro t ht
          have hc : t = sumT x y ∨ t ∈ r' := by
            unfold conT at ht
            split at ht
            · exact .inr ht
            · simpa using ht
          rcases hc with rfl | ht
          · exact .inl ⟨x, by simp, rfl⟩
          · rcases merge_mem h1 t ht with ⟨z, hz, e⟩ | ⟨z, hz, e⟩
            · exact .inl ⟨z, by simp [hz], e⟩
            · exact .inr ⟨z, by simp [hz], e⟩
        · cases h
      · obtain ⟨r', h1, rfl⟩ := Option.map_eq_some_iff.1 h
        intro t ht
        rcases List.mem_cons.1 ht with rfl | ht
        · exact .inr ⟨t, by simp, rfl⟩
        · rcases merge_mem h1 t ht with h | ⟨z, hz, e⟩
          · exact .inl h
          · exact .inr ⟨z, by simp [hz], e⟩
  termination_by xs ys => xs.length + ys.length
theorem ser_bd {L V : Int} {ts : List Tm} (h : serB L V ts = true) : ∀ t ∈ ts, bdT t := fun t ht => (isF_abs (term_isF h t ht)).imp_right (·.1)
theorem ser_nz {L V : Int} {ts : List Tm} (h : serB L V ts = true) : ∀ t ∈ ts, t.n ≠ 0 := fun t ht => by
  have h1 := ser_term h t ht
  simp only [termB, Bool.and_eq_true, Bool.not_eq_true', beq_eq_false_iff_ne] at h1
  exact h1.2.2
theorem put_merge {L V L2 V2 : Int} {ts ys : List Tm} (h : serB L V ts = true) (h2 : serB L2 V2 ys = true) : putAll ts ys = mergeL ts ys :=
  putAll_merge ts ys (asc_pairwise (asc_of_ser h)) (asc_pairwise (asc_of_ser h2)) (ser_nz h2)

theorem main_AddSeries (L0 V0 : Int) (a0 : Option Addr) (cap0 : Nat) (ts0 : List Tm) (hl0 : ts0.length ≤ maxLen) (hs0 : ∀ i (h : i < ts0.length), (ts0[i]).s.size ≤ maxLen) (L1 V1 : Int) (a1 : Option Addr) (cap1 : Nat) (ts1 : List Tm) (hl1 : ts1.length ≤ maxLen) (hs1 : ∀ i (h : i < ts1.length), (ts1[i]).s.size ≤ maxLen) (w : World) (hr0 : Row w a0 ts0) (hr1 : Row w a1 ts1) :
    Calls Try.prog 3 #[.agg #[.int .i64 L0, .int .i64 V0, .slice a0 ts0.length cap0], .agg #[.int .i64 L1, .int .i64 V1, .slice a1 ts1.length cap1]] w fun e w' => e = .returned (.bool true) ∧ Below w.heap.size w w' := by
  by_cases hbig : ts0.length ≤ 1048576 ∧ ts1.length ≤ 1048576
  · obtain ⟨hb0, hb1⟩ := hbig
    have law := law_AddSeries L0 V0 a0 cap0 ts0 hl0 hs0 L1 V1 a1 cap1 ts1 hl1 hs1 w hr0 hr1
    cases h1 : serB L0 V0 ts0 with
    | false => exact law 0 0 1 [] (by simp) (fun W g1 g2 q1 q2 p1 p2 t1 t2 => sAdd_1 _ _ _ _ g1 g2 ts0 ts1 W (codeL_1 h1) q1 q2 hs0 hs1 p1 p2 t1 t2) (fun W g1 g2 q1 q2 p1 p2 t1 t2 => iAdd_1a _ _ _ _ g1 g2 ts0 ts1 W h1 q1 q2 hs0 hs1 p1 p2 t1 t2)
    | true =>
      cases h2 : serB L1 V1 ts1 with
      | false => exact law 0 0 1 [] (by simp) (fun W g1 g2 q1 q2 p1 p2 t1 t2 => sAdd_1 _ _ _ _ g1 g2 ts0 ts1 W (codeL_2 h2) q1 q2 hs0 hs1 p1 p2 t1 t2) (fun W g1 g2 q1 q2 p1 p2 t1 t2 => iAdd_1b _ _ _ _ g1 g2 ts0 ts1 W h1 h2 q1 q2 hs0 hs1 p1 p2 t1 t2)
      | true =>
        cases h3 : alikeB L0 V0 L1 V1 with
        | false => exact law 0 0 2 [] (by simp) (fun W g1 g2 q1 q2 p1 p2 t1 t2 => sAdd_2 _ _ _ _ g1 g2 ts0 ts1 W (codeL_3 h1 h2 h3) q1 q2 hs0 hs1 p1 p2 t1 t2) (fun W g1 g2 q1 q2 p1 p2 t1 t2 => iAdd_2 _ _ _ _ g1 g2 ts0 ts1 W h1 h2 h3 q1 q2 hs0 hs1 p1 p2 t1 t2)
        | true =>
          have f1 := term_isF h1
          have f2 := term_isF h2
          cases h4 : mergeL ts0 ts1 with
          | none => exact law 0 0 3 [] (by simp) (fun W g1 g2 q1 q2 p1 p2 t1 t2 => sAdd_3 _ _ _ _ g1 g2 ts0 ts1 W (codeL_4 h1 h2 h3) ((put_merge h1 h2).trans h4) (ser_bd h1) (ser_bd h2) q1 q2 hs0 hs1 p1 p2 t1 t2) (fun W g1 g2 q1 q2 p1 p2 t1 t2 => iAdd_3 _ _ _ _ g1 g2 ts0 ts1 W h1 h2 h3 f1 f2 h4 q1 q2 hs0 hs1 p1 p2 t1 t2)
          | some r =>
            have hlr := mergeL_length h4
            have hrs : ∀ t ∈ r, t.s.size ≤ 5 := fun t ht => by
              rcases merge_mem h4 t ht with ⟨z, hz, e⟩ | ⟨z, hz, e⟩
              · rw [← e]; exact ser_small h1 z hz
              · rw [← e]; exact ser_small h2 z hz
            exact law L0 V0 0 r (by omega) (fun W g1 g2 q1 q2 p1 p2 t1 t2 => sAdd_4 _ _ _ _ g1 g2 ts0 ts1 W r (codeL_4 h1 h2 h3) ((put_merge h1 h2).trans h4) (ser_bd h1) (ser_bd h2) q1 q2 hs0 hs1 p1 p2 t1 t2) (fun W g1 g2 q1 q2 p1 p2 t1 t2 => iAdd_4 _ _ _ _ g1 g2 ts0 ts1 W h1 h2 h3 f1 f2 r h4 hrs q1 q2 hs0 hs1 p1 p2 t1 t2)
  · exact law_AddSeries L0 V0 a0 cap0 ts0 hl0 hs0 L1 V1 a1 cap1 ts1 hl1 hs1 w hr0 hr1 0 0 0 [] (by simp) (fun W g1 g2 q1 q2 _ _ _ _ => absurd ⟨q1, q2⟩ hbig) (fun W g1 g2 q1 q2 _ _ _ _ => absurd ⟨q1, q2⟩ hbig)

namespace fnExactAddSeries
set_option maxRecDepth 100000 in
theorem lifted (os : Os) (started : os.Started) (H : Type) (enc : TypeId × Value → H) :
    ReturnsInHanded {} Try.checked os 3 .any (Rows.fnExactAddSeriesSpec.pre6 enc Try.prog Try.f3 Rows.fnExactAddSeriesRow.domain false) (Rows.fnExactAddSeriesSpec.post enc Try.prog Try.f3 false true false false) := by
  refine returnsInHanded_of_change (C := Try.checked) seatOwn started (by kernel_rfl) Try.func3
    (ChangeSpec.witness6 (enc := enc) (C := Try.checked) false ⟨#[], #[.agg #[.int .i64 0, .int .i64 0, .slice none 0 0], .agg #[.int .i64 0, .int .i64 0, .slice none 0 0]], []⟩ 8 (by kernel_rfl) (by kernel_rfl) (by kernel_rfl) (by kernel_rfl)) ?_
  intro W base args ds gs before hval0 hW _ _
  have hval : ∀ (j : Nat) t v, Try.f3.params[j]? = some t → args[j]? = some v → Value.okWide Try.prog W .any base t v := hval0
  have hW' := hW
  have hlt : ∀ x ∈ before, x.block < W.heap.size := fun x hx => hW.lt x hx
  obtain ⟨p, q, hA0, hV, rfl, _, _⟩ := hW
  have hA : DataW.TrodAll enc Try.prog W 0 (fun _ => true) true Try.f3.params.toList args.toList ds p := hA0
  rw [Try.params3] at hA hval
  obtain ⟨v0, vs0, d00, ds0, p0, q0, hargs, rfl, rfl, h0, r0⟩ := trodAll_cons hA
  obtain ⟨v1, vs1, d10, ds1, p1, q1, rfl, rfl, rfl, h1, r1⟩ := trodAll_cons r0
  obtain ⟨rfl, rfl, rfl⟩ := trodAll_nil r1
  obtain rfl : args = #[v0, v1] := by cases args; simp_all
  obtain ⟨rfl, rfl⟩ := trodVars_none hV
  have h0k := h0
  obtain ⟨L0, V0, a0, cap0, ts0, rfl, hl0, hs0, hr0⟩ := open_series (hval 0 24 v0 rfl rfl) h0
  have h1k := h1
  obtain ⟨L1, V1, a1, cap1, ts1, rfl, hl1, hs1, hr1⟩ := open_series (hval 1 24 v1 rfl rfl) h1
  clear hA0 hval0
  simp only [List.append_nil] at hW' hlt
  refine (main_AddSeries L0 V0 a0 cap0 ts0 hl0 hs0 L1 V1 a1 cap1 ts1 hl1 hs1 W hr0 hr1).mono fun e W' ⟨he, hg⟩ => ?_
  subst he
  have hk0 := Below.trod seatLaid (by kernel_rfl) (of_decide_eq_true (by kernel_rfl)) h0k hg (fun x hx => hlt x (by simp [hx]))
  have hk1 := Below.trod seatLaid (by kernel_rfl) (of_decide_eq_true (by kernel_rfl)) h1k hg (fun x hx => hlt x (by simp [hx]))
  exact ⟨_, rfl, shut_reads (pa := p0 ++ p1) hW' (fun _ _ _ => (trodAll_cons_mk (shut_bool Try.underlying4 _) trodAll_mk0)) (by have h := (trodAll_cons_mk hk0 (trodAll_cons_mk hk1 trodAll_mk0)); simp only [List.append_nil] at h; exact h) (fun _ => rfl) hg⟩

theorem over : Rows.fnExactAddSeriesRow.holds Try.pinned (OpenSpec.ofChange Rows.fnExactAddSeriesSpec) :=
  OpenClaim.holds_of_wide 3 Try.f3 rfl rfl rfl rfl rfl rfl rfl ⟨rfl, rfl, rfl, rfl, rfl⟩ rfl rfl rfl rfl rfl (by kernel_rfl) Try.func3 (by kernel_rfl)
    (of_decide_eq_true (by kernel_rfl)) (by unfold Func.isWrapper; first | (rw [if_pos (by decide +kernel)]; kernel_rfl) | (rw [if_neg (by decide +kernel)]; exact ⟨rfl, rfl⟩))
    (fun os started H enc _ => lifted os started H enc)

theorem proved : Rows.FnExactAddSeriesSaid := over
end fnExactAddSeries
end Go.Proofs.Ytbhbcjaaomdlaaa
