/-
  A slice of slices of slices of int64, handed in: opened to its tables of rows of numbers.
-/
import Derived.Test.YtknigggjnjkhbaaTabs
import Derived.Test.YtknigggjnjkhbaaOpenP
namespace Go.Proofs.Ytknigggjnjkhbaa
open Go.ChangeShapes Go.WideShapes Go.ChangeAt Go.RowKit

section
variable {H : Type} {enc : TypeId × Value → H} {w : World} {base : Nat} {held : Bool}
theorem path_cells : Try.prog.cellsOf 50 = 1 := by kernel_rfl
set_option maxRecDepth 100000 in
theorem path_of_trod {fuel : Nat} {v : Value} {x : DataW H × List MemPlace} (h : DataW.trod enc Try.prog w base (fun _ => true) held fuel 50 [v] = some x) :
    ∃ (a : Option Addr) (cap : Nat) (ps : List (List Int)), v = .slice a ps.length cap ∧ ps.length ≤ maxLen ∧ (∀ i (hi : i < ps.length), (ps[i]).length ≤ maxLen) ∧ PRow 0 w.heap.size w a ps := by
  rcases Deep.open_int_rows Try.underlying50 Try.underlying79 Try.underlying2 row_cells int64_cells1 h with ⟨e, _⟩ | ⟨a, len1, cap1, A, L, C, Z, e, hb, hl, hm, _, hr⟩
  · injection e with e
    exact ⟨none, 0, [], e, by simp, fun i hi => absurd hi (Nat.not_lt_zero _), .inl rfl⟩
  · injection e with e
    subst e
    refine ⟨some a, cap1, (List.range len1).map fun r => (Z r).take (L r), by simp, by simp; omega, fun i hi => ?_, ?_⟩
    · have hi' : i < len1 := by simpa using hi
      obtain ⟨_, h1, h2, h3, _⟩ := hr i (by omega)
      simp only [List.getElem_map, List.getElem_range, List.length_take]
      omega
    · by_cases h0 : len1 = 0
      · subst h0; exact .inl (by simp)
      · obtain ⟨hsp, hab⟩ := addr_of (hr 0 (by omega)).1
        have hbase : (a.add 0) = a := by simp [Addr.add]
        rw [hbase] at hsp hab
        obtain ⟨b, off, sp⟩ := a
        simp only at hsp hab
        subst hsp
        refine .inr ⟨b, off, rfl, Nat.zero_le _, hab, fun i hi => ?_⟩
        have hi' : i < len1 := by simpa using hi
        obtain ⟨hc, h1, h2, h3, _, h4, h5⟩ := hr i (by omega)
        have hlen : ((Z i).take (L i)).length = L i := by rw [List.length_take]; omega
        refine ⟨A i, C i, ?_, ?_⟩
        · simp only [List.getElem_map, List.getElem_range, hlen]
          rw [add_form] at hc
          exact hc
        · simp only [List.getElem_map, List.getElem_range]
          by_cases hz : L i = 0
          · exact .inl (by rw [hz, List.take_zero])
          · have hAn : A i ≠ none := fun e => by have := h4 e; omega
            obtain ⟨a', ha'⟩ := Option.ne_none_iff_exists'.1 hAn
            obtain ⟨_, hcc⟩ := h5 a' ha'
            obtain ⟨hsp', hab'⟩ := addr_of (hcc 0 (by omega))
            have hbase' : (a'.add 0) = a' := by simp [Addr.add]
            rw [hbase'] at hsp' hab'
            obtain ⟨b', off', sp'⟩ := a'
            simp only at hsp' hab'
            subst hsp'
            refine .inr ⟨b', off', ha', Nat.zero_le _, hab', fun j hj => ?_⟩
            rw [hlen] at hj
            have hq := hcc j (by omega)
            rw [add_form] at hq
            rw [hq, List.getElem_take, List.getD_eq_getElem?_getD, List.getElem?_eq_getElem (by omega)]
            rfl
set_option maxRecDepth 100000 in
theorem open_tabs {r0 : Reach} {b0 : Nat} {v : Value} {d : DataW H} {p : List MemPlace} (hv : Value.okWide Try.prog w r0 b0 25 v) (h : DataW.Trod enc Try.prog w base (fun _ => true) held 25 v d p) :
    ∃ (a : Option Addr) (cap : Nat) (ps : Tabs), v = .slice a ps.length cap ∧ ps.length ≤ maxLen ∧ (∀ i (hi : i < ps.length), (ps[i]).length ≤ maxLen ∧ ∀ j (h2 : j < (ps[i]).length), ((ps[i])[j]).length ≤ maxLen) ∧ TRow 0 w.heap.size w a ps := by
  obtain ⟨a0, len1, cap1, rfl⟩ := okWide_slice Try.underlying25 hv
  obtain ⟨fuel, h⟩ := h
  rcases Deep.open_slice1 Try.underlying25 path_cells h with ⟨e, _⟩ | ⟨a, len, cap, m, n, V, D, Pl, e, hb, hl, hm, hmm, _, hr⟩
  · simp [Value.cells] at e
    obtain ⟨rfl, rfl, rfl⟩ := e
    exact ⟨none, 0, [], rfl, by simp, fun i hi => absurd hi (Nat.not_lt_zero _), .inl rfl⟩
  · simp [Value.cells] at e
    obtain ⟨rfl, rfl, rfl⟩ := e
    simp only [if_true] at hmm
    subst hmm
    have each : ∀ r, r < m → ∃ y : Option Addr × Nat × List (List Int), V r = .slice y.1 y.2.2.length y.2.1 ∧ y.2.2.length ≤ maxLen ∧ (∀ i (hi : i < y.2.2.length), (y.2.2[i]).length ≤ maxLen) ∧ PRow 0 w.heap.size w y.1 y.2.2 := fun r hrm => by
      obtain ⟨a', c', ps, h1, h2, h3, h4⟩ := path_of_trod (hr r hrm).2
      exact ⟨(a', c', ps), h1, h2, h3, h4⟩
    obtain ⟨y, hy⟩ := Deep.choose_lt each
    refine ⟨some a, m, (List.range len1).map fun r => (y r).2.2, by simp, by simp; omega, fun i hi => ?_, ?_⟩
    · have hi' : i < len1 := by simpa using hi
      obtain ⟨_, h1, h2, _⟩ := hy i (by omega)
      simp only [List.getElem_map, List.getElem_range]
      exact ⟨h1, h2⟩
    · by_cases h0 : len1 = 0
      · subst h0; exact .inl (by simp)
      · obtain ⟨hsp, hab⟩ := addr_of (hr 0 (by omega)).1
        have hbase : (a.add 0) = a := by simp [Addr.add]
        rw [hbase] at hsp hab
        obtain ⟨b, off, sp⟩ := a
        simp only at hsp hab
        subst hsp
        refine .inr ⟨b, off, rfl, Nat.zero_le _, hab, fun i hi => ?_⟩
        have hi' : i < len1 := by simpa using hi
        obtain ⟨h1, _, _, h4⟩ := hy i (by omega)
        have hc := (hr i (by omega)).1
        rw [add_form, h1] at hc
        exact ⟨(y i).1, (y i).2.1, by simp only [List.getElem_map, List.getElem_range]; exact hc, by simp only [List.getElem_map, List.getElem_range]; exact h4⟩
end
end Go.Proofs.Ytknigggjnjkhbaa
