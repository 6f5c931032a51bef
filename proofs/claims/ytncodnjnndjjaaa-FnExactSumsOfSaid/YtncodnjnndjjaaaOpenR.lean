/-
  A slice of int64, handed in: opened to its numbers.
-/
import Derived.Test.YtncodnjnndjjaaaPaths
import Derived.Test.YtncodnjnndjjaaaOpen
import Derived.Deep.Matrix
namespace Go.Proofs.Ytncodnjnndjjaaa
open Go.ChangeShapes Go.WideShapes Go.ChangeAt Go.RowKit

section
variable {H : Type} {enc : TypeId × Value → H} {w : World} {base : Nat} {held : Bool}
theorem int64_cells2 : Try.prog.cellsOf 2 = 1 := by kernel_rfl
set_option maxRecDepth 100000 in
theorem open_row {r0 : Reach} {b0 : Nat} {v : Value} {d : DataW H} {p : List MemPlace} (hv : Value.okWide Try.prog w r0 b0 29 v) (h : DataW.Trod enc Try.prog w base (fun _ => true) held 29 v d p) :
    ∃ (a : Option Addr) (cap : Nat) (zs : List Int), v = .slice a zs.length cap ∧ zs.length ≤ maxLen ∧ IRow 0 w.heap.size w a zs := by
  obtain ⟨a0, len1, cap1, rfl⟩ := okWide_slice Try.underlying29 hv
  obtain ⟨fuel, h⟩ := h
  rcases open_ints Try.underlying29 Try.underlying2 int64_cells2 h with ⟨e, _⟩ | ⟨a', len', cap', zs, e, hb', hl', hm', hz, _, hcell, hwz⟩
  · simp [Value.cells] at e
    obtain ⟨rfl, rfl, rfl⟩ := e
    exact ⟨none, 0, [], rfl, by simp, .inl rfl⟩
  · simp [Value.cells] at e
    obtain ⟨rfl, rfl, rfl⟩ := e
    simp only [if_true] at hz
    have hlen : (zs.take len1).length = len1 := by rw [List.length_take]; omega
    refine ⟨some a', cap1, zs.take len1, by rw [hlen], by rw [hlen]; omega, ?_⟩
    by_cases h0 : len1 = 0
    · exact .inl (by rw [h0, List.take_zero])
    · obtain ⟨hsp', hab'⟩ := addr_of (hcell 0 (by omega))
      have hbase' : (a'.add 0) = a' := by simp [Addr.add]
      rw [hbase'] at hsp' hab'
      obtain ⟨b', off', sp'⟩ := a'
      simp only at hsp' hab'
      subst hsp'
      refine .inr ⟨b', off', rfl, Nat.zero_le _, hab', fun j hj => ?_⟩
      rw [hlen] at hj
      have hq := hcell j (by omega)
      rw [add_form] at hq
      rw [hq, List.getElem_take, List.getD_eq_getElem?_getD, List.getElem?_eq_getElem (by omega)]
      rfl
end
end Go.Proofs.Ytncodnjnndjjaaa
