/-
  'FnExactLyndonWords' returns true at every input: the program's LyndonWords and its model's return the same words and code, in memory of its own. No condition.
-/
import Derived.Test.YtblhmdeoliipfaaLwJ
import Derived.Test.YtblhmdeoliipfaaLwM
import Derived.Test.YtblhmdeoliipfaaLawLyndonWords
import Derived.Test.YtblhmdeoliipfaaOpen
namespace Go.Proofs.Ytblhmdeoliipfaa
open Go.ChangeShapes Go.WideShapes Go.ChangeAt Go.RowKit
open Go.ChangeMaps (open_string shut_string)

theorem baL_toList (s : ByteArray) : baL s.toList = s := by
  unfold baL
  rw [ByteArray.toList_eq]
/-- the words of n letters of the program's list are the model's -/
theorem kept_are {d n : Nat} {L : List (List UInt8)} (hl : ∀ v ∈ L, v.length ≤ n) (hk : L.filter (fun w => w.length == n) = ((wordsL d n).filter lynB).map (fun s => s.toList)) :
    ((L.map baL).filter fun s => !decide ((s.size : Int) < (n : Int))) = (wordsL d n).filter lynB := by
  rw [List.filter_map]
  have e : L.filter ((fun s : ByteArray => !decide ((s.size : Int) < (n : Int))) ∘ baL) = L.filter (fun w => w.length == n) := by
    refine List.filter_congr fun w hw => ?_
    have h := hl w hw
    have hs : (baL w).size = w.length := by simp [baL, ByteArray.size]
    simp only [Function.comp, hs]
    by_cases hx : w.length = n
    · simp [hx]
    · have : w.length < n := by omega
      simp [hx, this]
  rw [e, hk, List.map_map]
  have e2 : (baL ∘ fun s : ByteArray => s.toList) = id := funext fun s => baL_toList s
  rw [e2, List.map_id]
theorem ap_38 : ap ((3 : Nat) : Int) 20 8 / ((8 : Nat) : Int) > 400 := by decide +kernel
theorem main_LyndonWords (d n : Int) (w : World) :
    Calls Try.prog 7 #[.int .i64 d, .int .i64 n] w fun e w' => e = .returned (.bool true) ∧ Below w.heap.size w w' := by
  by_cases hg : (1 ≤ d ∧ d ≤ 3) ∧ (1 ≤ n ∧ n ≤ 8)
  · obtain ⟨D, rfl⟩ : ∃ D : Nat, d = D := ⟨d.toNat, by omega⟩
    obtain ⟨N, rfl⟩ : ∃ N : Nat, n = N := ⟨n.toNat, by omega⟩
    by_cases hc : ap (D : Int) 20 N / N > 400
    · exact law_LyndonWords D N w 3 [] (by simp) (sLyndonWords_2 D N hg.1 (by omega) (by omega) hc) (iLyndonWords_2 D N hg.1 (by omega) (by omega) hc)
    · have hL : ∃ L, genL (UInt8.ofNat (47 + D)) N 2000 [48] = some L ∧ L.filter (fun w => w.length == N) = ((wordsL D N).filter lynB).map (fun s => s.toList) := by
        by_cases hs : D ≤ 2 ∨ N ≤ 6
        · obtain ⟨L, h1, _, h3⟩ := genL_is (d := D) (n := N) (by omega) (by omega) hs
          exact ⟨L, h1, h3 N (by omega) (Nat.le_refl _)⟩
        · obtain rfl : D = 3 := by omega
          have h' : N = 7 ∨ N = 8 := by omega
          rcases h' with rfl | rfl
          · obtain ⟨L, h1, _, h3⟩ := genL_is7
            exact ⟨L, h1, h3 7 (by omega) (Nat.le_refl _)⟩
          · exact absurd ap_38 hc
      obtain ⟨L, hL, hk⟩ := hL
      have hlen := genL_len 2000 [48] L (by simp; omega) hL
      have hS := sLyndonWords_3 D N (by omega) (by omega) (by omega) hc
      have hI := iLyndonWords_3 D N (by omega) (by omega) (by omega) hc L hL hlen.1 hlen.2.1
      rw [kept_are hlen.2.2 hk] at hI
      refine law_LyndonWords D N w 0 _ ?_ hS hI
      have := wordsL_few8 (d := D) (n := N) (by omega) (by omega)
      exact Nat.le_trans (List.length_filter_le _ _) (by omega)
  · have hb : inB d 1 3 = false ∨ inB n 1 8 = false := by
      cases h1 : inB d 1 3 with
      | false => exact .inl rfl
      | true =>
        cases h2 : inB n 1 8 with
        | false => exact .inr rfl
        | true => exact absurd ⟨inB_true h1, inB_true h2⟩ hg
    exact law_LyndonWords d n w 2 [] (by simp) (sLyndonWords_1 d n hb) (iLyndonWords_1 d n hb)

namespace fnExactLyndonWords
set_option maxRecDepth 100000 in
theorem lifted (os : Os) (started : os.Started) (H : Type) (enc : TypeId × Value → H) :
    ReturnsInHanded {} Try.checked os 7 .any (Rows.fnExactLyndonWordsSpec.pre6 enc Try.prog Try.f7 Rows.fnExactLyndonWordsRow.domain false) (Rows.fnExactLyndonWordsSpec.post enc Try.prog Try.f7 false true false false) := by
  refine returnsInHanded_of_change (C := Try.checked) seatOwn started (by kernel_rfl) Try.func7
    (ChangeSpec.witness6 (enc := enc) (C := Try.checked) false ⟨#[], #[.int .i64 0, .int .i64 0], []⟩ 8 (by kernel_rfl) (by kernel_rfl) (by kernel_rfl) (by kernel_rfl)) ?_
  intro W base args ds gs before hval0 hW _ _
  have hval : ∀ (j : Nat) t v, Try.f7.params[j]? = some t → args[j]? = some v → Value.okWide Try.prog W .any base t v := hval0
  have hW' := hW
  have hlt : ∀ x ∈ before, x.block < W.heap.size := fun x hx => hW.lt x hx
  obtain ⟨p, q, hA0, hV, rfl, _, _⟩ := hW
  have hA : DataW.TrodAll enc Try.prog W 0 (fun _ => true) true Try.f7.params.toList args.toList ds p := hA0
  rw [Try.params7] at hA hval
  obtain ⟨v0, vs0, d00, ds0, p0, q0, hargs, rfl, rfl, h0, r0⟩ := trodAll_cons hA
  obtain ⟨v1, vs1, d10, ds1, p1, q1, rfl, rfl, rfl, h1, r1⟩ := trodAll_cons r0
  obtain ⟨rfl, rfl, rfl⟩ := trodAll_nil r1
  obtain rfl : args = #[v0, v1] := by cases args; simp_all
  obtain ⟨rfl, rfl⟩ := trodVars_none hV
  obtain ⟨n0, rfl, rfl, rfl, wf0⟩ := open_int Try.underlying2 (hval 0 2 v0 rfl rfl) h0
  obtain ⟨n1, rfl, rfl, rfl, wf1⟩ := open_int Try.underlying2 (hval 1 2 v1 rfl rfl) h1
  clear hA0 hval0
  simp only [List.append_nil] at hW' hlt
  refine (main_LyndonWords n0 n1 W ).mono fun e W' ⟨he, hg⟩ => ?_
  subst he
  exact ⟨_, rfl, shut_reads (pa := []) hW' (fun _ _ _ => (trodAll_cons_mk (shut_bool Try.underlying4 _) trodAll_mk0)) (trodAll_cons_mk (shut_int Try.underlying2 wf0) (trodAll_cons_mk (shut_int Try.underlying2 wf1) trodAll_mk0)) (fun _ => rfl) hg⟩

theorem over : Rows.fnExactLyndonWordsRow.holds Try.pinned (OpenSpec.ofChange Rows.fnExactLyndonWordsSpec) :=
  OpenClaim.holds_of_wide 7 Try.f7 rfl rfl rfl rfl rfl rfl rfl ⟨rfl, rfl, rfl, rfl, rfl⟩ rfl rfl rfl rfl rfl (by kernel_rfl) Try.func7 (by kernel_rfl)
    (of_decide_eq_true (by kernel_rfl)) (by unfold Func.isWrapper; first | (rw [if_pos (by decide +kernel)]; kernel_rfl) | (rw [if_neg (by decide +kernel)]; exact ⟨rfl, rfl⟩))
    (fun os started H enc _ => lifted os started H enc)

theorem proved : Rows.FnExactLyndonWordsSaid := over
end fnExactLyndonWords
end Go.Proofs.Ytblhmdeoliipfaa
