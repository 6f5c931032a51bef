/-
  'FnExactKeepLetters' returns true at every input: the program's KeepLetters and its model's return the same series and code, in memory of its own, and the argument reads as before. No condition.
-/
import Derived.Test.YtlaaldpejjlbkaaDoorLawKeepLetters
import Derived.Test.YtlaaldpejjlbkaaDoorKeepI
import Derived.Test.YtlaaldpejjlbkaaDoorDoorL
import Derived.Lay
namespace Go.Proofs.YtlaaldpejjlbkaaDoor
open Go.ChangeShapes Go.WideShapes Go.ChangeAt Go.RowKit
open Go.ChangeMaps (open_string shut_string)

theorem main_KeepLetters (L V : Int) (a : Option Addr) (cap : Nat) (ts : List Tm) (hl : ts.length ≤ maxLen) (hs : ∀ i (h : i < ts.length), (ts[i]).s.size ≤ maxLen) (u : ByteArray) (hz : u.size ≤ maxLen) (w : World) (hr : Row w a ts) :
    Calls Tryd.prog 3 #[.agg #[.int .i64 L, .int .i64 V, .slice a ts.length cap], .string u] w fun e w' => e = .returned (.bool true) ∧ Below w.heap.size w w' := by
  have law := law_KeepLetters L V a cap ts hl hs u hz w hr
  by_cases hbig : ts.length ≤ 1048576
  · cases h1 : serB L V ts with
    | false => exact law 0 0 1 [] (by simp) (fun W g q p t => by have h := sKeep_err L V g ts u hz q hs W p t (.inl h1); simpa [codeK, h1] using h) (fun W g q p t => iKeep_err L V g ts u hz q hs W p t (.inl h1) 1 (by rw [h1]; rfl))
    | true =>
      obtain ⟨hL1, hL3, -, -, -⟩ := shape_out (show shapeB L V = true from by have h := h1; unfold serB at h; rw [Bool.and_eq_true] at h; exact h.1)
      cases h2 : wordB L u.data.toList with
      | false => exact law 0 0 2 [] (by simp) (fun W g q p t => by have h := sKeep_err L V g ts u hz q hs W p t (.inr h2); simpa [codeK, h1, h2] using h) (fun W g q p t => iKeep_err L V g ts u hz q hs W p t (.inr (by rw [h2, Bool.and_false])) 2 (by rw [h1]; rfl))
      | true =>
        cases h3 : diffB u.data.toList with
        | false =>
          refine law 0 0 2 [] (by simp) (fun W g q p t => sKeep_dup L V g ts u hz q hs W p t h1 h2 h3) (fun W g q p t => ?_)
          by_cases h4 : (u.size : Int) ≤ L
          · exact iKeep_dup L V g ts u hz q hs W p t h1 (by rw [h2, decide_eq_true h4]; rfl) hL3 h3
          · exact iKeep_err L V g ts u hz q hs W p t (.inr (by rw [decide_eq_false h4]; rfl)) 2 (by rw [h1]; rfl)
        | true =>
          have h4 := diff_few ⟨hL1, hL3⟩ h2 h3
          rw [size_list] at h4
          exact law L V 0 (ts.filter (onlyT u)) (Nat.le_trans (List.length_filter_le _ _) hbig) (fun W g q p t => sKeep_ok L V g ts u hz q hs W p t h1 h2 h3) (fun W g q p t => by have h := iKeep_ok L V g ts u hz q hs W p t h1 (by rw [h2, decide_eq_true h4]; rfl) hL3 h3; rw [pick_only] at h; exact h)
  · exact law 0 0 0 [] (by simp) (fun W g h2 hb ht => absurd h2 hbig) (fun W g h2 hb ht => absurd h2 hbig)

namespace fnExactKeepLetters
set_option maxRecDepth 100000 in
theorem lifted (os : Os) (started : os.Started) (H : Type) (enc : TypeId × Value → H) :
    ReturnsInHanded {} Tryd.checked os 3 .any (fun w args => (Rows.fnExactKeepLettersSpec.pre enc Tryd.prog Tryd.f3 [] false w args ∧ laidMetH Tryd.prog Rows.fnExactKeepLettersRow.laid w) ∧ sizedMet enc Tryd.prog Tryd.f3 (OpenSpec.ofChange Rows.fnExactKeepLettersSpec) false w args)
      (Rows.fnExactKeepLettersSpec.post enc Tryd.prog Tryd.f3 false true false false) := by
  refine returnsInHanded_of_change_and (C := Tryd.checked) (X := fun w _ => laidMetH Tryd.prog Rows.fnExactKeepLettersRow.laid w) (fun _ _ _ hh h => h.of_heap hh) seatOwn started (by kernel_rfl) Tryd.func3
    (ChangeSpec.witness_shaped (enc := enc) (C := Tryd.checked) (os := os) (X := fun w _ => laidMetH Tryd.prog Rows.fnExactKeepLettersRow.laid w) false (World.laidAll Tryd.prog os Rows.fnExactKeepLettersRow.laid) #[.agg #[.int .i64 0, .int .i64 0, .slice none 0 0], .string ByteArray.empty] 8 (World.laidAll_os _ _ _) (World.shaped_of_ZipB (by kernel_rfl) (by kernel_rfl)) (by kernel_rfl) (by kernel_rfl) (by kernel_rfl) (by rw [MakeChecks.laidMetH_plain _ _ _ (by kernel_rfl)]; exact laidMet_laidAll _ (by kernel_rfl) (by kernel_rfl))) ?_
  intro W base args ds gs before hval0 hW _ _ _ _
  have hval : ∀ (j : Nat) t v, Tryd.f3.params[j]? = some t → args[j]? = some v → Value.okWide Tryd.prog W .any base t v := hval0
  have hW' := hW
  have hlt : ∀ x ∈ before, x.block < W.heap.size := fun x hx => hW.lt x hx
  obtain ⟨p, q, hA0, hV, rfl, _, _⟩ := hW
  have hA : DataW.TrodAll enc Tryd.prog W 0 (fun _ => true) true Tryd.f3.params.toList args.toList ds p := hA0
  rw [Tryd.params3] at hA hval
  obtain ⟨v0, vs0, d00, ds0, p0, q0, hargs, rfl, rfl, h0, r0⟩ := trodAll_cons hA
  obtain ⟨v1, vs1, d10, ds1, p1, q1, rfl, rfl, rfl, h1, r1⟩ := trodAll_cons r0
  obtain ⟨rfl, rfl, rfl⟩ := trodAll_nil r1
  obtain rfl : args = #[v0, v1] := by cases args; simp_all
  obtain ⟨rfl, rfl⟩ := trodVars_none hV
  have h0k := h0
  obtain ⟨L0, V0, a0, cap0, ts0, rfl, hl0, hs0, hr0⟩ := open_series (hval 0 24 v0 rfl rfl) h0
  obtain ⟨s1, rfl, rfl, rfl, wf1⟩ := open_string Tryd.underlying9 (hval 1 9 v1 rfl rfl) h1
  clear hA0 hval0
  simp only [List.append_nil] at hW' hlt
  refine (main_KeepLetters L0 V0 a0 cap0 ts0 hl0 hs0 s1 wf1 W hr0).mono fun e W' ⟨he, hg⟩ => ?_
  subst he
  have hk0 := Below.trod seatLaid (by kernel_rfl) (of_decide_eq_true (by kernel_rfl)) h0k hg (fun x hx => hlt x (by simp [hx]))
  exact ⟨_, rfl, shut_reads (pa := p0) hW' (fun _ _ _ => (trodAll_cons_mk (shut_bool Tryd.underlying4 _) trodAll_mk0)) (by have h := (trodAll_cons_mk hk0 (trodAll_cons_mk (shut_string Tryd.underlying9 wf1) trodAll_mk0)); simp only [List.append_nil] at h; exact h) (fun _ => rfl) hg⟩
end fnExactKeepLetters
end Go.Proofs.YtlaaldpejjlbkaaDoor
