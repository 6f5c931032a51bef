/-
  Plain mathematics: the terms of values at words make a series, and the values of these terms are the values.
-/
import Derived.Test.YtdgkkcjjfpenpaaGreatDoorAddP
import Derived.Test.YtdgkkcjjfpenpaaGreatDoorPrM
namespace Go.Proofs.YtdgkkcjjfpenpaaGreatDoor

theorem wordsL_B {D : Nat} (hD : D ≤ 3) : ∀ (n : Nat) (s : ByteArray), s ∈ wordsL D n → wordB (D : Int) s.data.toList = true
  | 0, s, h => by
    have e : s = ByteArray.empty := by simpa [wordsL] using h
    subst e
    rfl
  | n + 1, s, h => by
    unfold wordsL nextL at h
    obtain ⟨u, hu, h⟩ := List.mem_flatMap.1 h
    unfold longer at h
    obtain ⟨k, hk, rfl⟩ := List.mem_map.1 h
    have hk := List.mem_range.1 hk
    rw [append_list, letW_list, wordB_snoc, wordsL_B hD n u hu, Bool.true_and]
    have e : (UInt8.ofNat (48 + k)).toNat = 48 + k := by
      rw [UInt8.toNat_ofNat']
      omega
    simp only [letB, e, decide_eq_true_eq]
    omega
theorem allW_B {D : Nat} (hD : D ≤ 3) : ∀ (n : Nat) (s : ByteArray), s ∈ allW D n → wordB (D : Int) s.data.toList = true
  | 0, s, h => wordsL_B hD 0 s h
  | n + 1, s, h => by
    unfold allW at h
    rcases List.mem_append.1 h with h | h
    · exact allW_B hD n s h
    · exact wordsL_B hD (n + 1) s h
/-- good values make a series -/
theorem ser_terms {D N : Nat} (hs : shapeB (D : Int) (N : Int) = true) {h : VF} (hg : GoodV (allW D N) h) : serB (D : Int) (N : Int) (termsOf h (allW D N)) = true := by
  have hD := shape_out hs
  have ha := List.pairwise_iff_getElem.1 (termsOf_asc h (allW_asc (D := D) (by omega) N))
  refine serB_good hs fun k hk => ?_
  have hm := termsOf_iff.1 (List.getElem_mem hk)
  obtain ⟨h1, h2, h3⟩ := hg _ _ hm.2
  have hb : termB (D : Int) (N : Int) (termsOf h (allW D N))[k] = true := by
    have a1 := allW_size D N _ h1
    have a2 := allW_B (D := D) (by omega) N _ h1
    have h2' : isF (termsOf h (allW D N))[k].n (termsOf h (allW D N))[k].d = true := h2
    have h3' : (termsOf h (allW D N))[k].n ≠ 0 := h3
    simp only [termB, a2, h2', Bool.and_true, Bool.and_eq_true, decide_eq_true_eq, Bool.not_eq_true', beq_eq_false_iff_ne, Bool.true_and]
    exact ⟨by omega, h3'⟩
  unfold goodAt
  rw [List.getElem?_eq_getElem hk]
  show (termB _ _ _ && _) = true
  rw [hb, Bool.true_and]
  cases k with
  | zero => rfl
  | succ j =>
    show (match (termsOf h (allW D N))[j]? with | none => true | some p => lessL p.s.data.toList (termsOf h (allW D N))[j + 1].s.data.toList) = true
    rw [List.getElem?_eq_getElem (by omega)]
    exact ha j (j + 1) (by omega) hk (by omega)
theorem good_ext {ws : List ByteArray} {f g : VF} (hf : GoodV ws f) (hg : GoodV ws g) (h : ∀ s, valF f s = valF g s) : f = g := by
  funext s
  have e := h s
  cases ef : f s with
  | none =>
    rw [valF_none ef] at e
    exact (valF_zero hg s (by rw [← e])).symm
  | some p =>
    cases eg : g s with
    | none =>
      rw [valF_none eg, valF_some ef] at e
      exact absurd (by rw [e]) (hf s p ef).2.2
    | some q => rw [valF_some ef, valF_some eg] at e; rw [e]
/-- the values of the terms of good values are these values -/
theorem valV_terms {D N : Nat} (hs : shapeB (D : Int) (N : Int) = true) {h : VF} (hg : GoodV (allW D N) h) : valV (termsOf h (allW D N)) (termsOf h (allW D N)).length = h := by
  have hD := shape_out hs
  have hser := ser_terms hs hg
  have hv := good_valV hser
  have hw := allW_asc (D := D) (by omega) N
  refine good_ext hv.1 hg fun s => ?_
  rw [← valL_termsOf hw hv.1 s, ← valL_termsOf hw hg s, hv.2]
end Go.Proofs.YtdgkkcjjfpenpaaGreatDoor
