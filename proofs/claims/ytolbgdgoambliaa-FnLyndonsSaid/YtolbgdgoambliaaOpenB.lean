/-
  Opening an argument of bytes ([]byte), as a law that draws takes it.
-/
import Derived.Test.YtolbgdgoambliaaOpenR
import Derived.Test.YtolbgdgoambliaaDrw
namespace Go.Proofs.Ytolbgdgoambliaa
open Go.ChangeShapes Go.WideShapes Go.ChangeAt Go.RowKit

section
variable {H : Type} {enc : TypeId × Value → H} {w : World} {base : Nat} {held : Bool}
theorem uint8_cells1 : Try.prog.cellsOf 5 = 1 := by kernel_rfl
theorem wf_byte {n : Int} (h : (Lit.int .u8 n).wf = true) : 0 ≤ n ∧ n ≤ 255 := by
  simp [Lit.wf, IntKind.min, IntKind.max, IntKind.signed, IntKind.bits] at h
  omega
set_option maxRecDepth 100000 in
theorem open_bytes {r0 : Reach} {b0 : Nat} {v : Value} {d : DataW H} {p : List MemPlace} (hv : Value.okWide Try.prog w r0 b0 22 v) (h : DataW.Trod enc Try.prog w base (fun _ => true) held 22 v d p) :
    ∃ (a : Option Addr) (cap : Nat) (zs : List Int), v = .slice a zs.length cap ∧ (∀ z ∈ zs, 0 ≤ z ∧ z ≤ 255) ∧ BRow w.heap.size w a zs := by
  obtain ⟨a0, len1, cap1, rfl⟩ := okWide_slice Try.underlying22 hv
  obtain ⟨fuel, h⟩ := h
  rcases open_ints Try.underlying22 Try.underlying5 uint8_cells1 h with ⟨e, _⟩ | ⟨a', len', cap', zs, e, hb', hl', hm', hz, _, hcell, hwz⟩
  · simp [Value.cells] at e
    obtain ⟨rfl, rfl, rfl⟩ := e
    exact ⟨none, 0, [], rfl, by simp, .inl rfl⟩
  · simp [Value.cells] at e
    obtain ⟨rfl, rfl, rfl⟩ := e
    simp only [if_true] at hz
    have hlen : (zs.take len1).length = len1 := by rw [List.length_take]; omega
    refine ⟨some a', cap1, zs.take len1, by rw [hlen], fun z hz' => wf_byte (hwz z (List.mem_of_mem_take hz')), ?_⟩
    by_cases h0 : len1 = 0
    · exact .inl (by rw [h0, List.take_zero])
    · obtain ⟨hsp', hab'⟩ := addr_of (hcell 0 (by omega))
      have hbase' : (a'.add 0) = a' := by simp [Addr.add]
      rw [hbase'] at hsp' hab'
      obtain ⟨b', off', sp'⟩ := a'
      simp only at hsp' hab'
      subst hsp'
      refine .inr ⟨b', off', rfl, hab', fun j hj => ?_⟩
      rw [hlen] at hj
      have hq := hcell j (by omega)
      rw [add_form] at hq
      rw [hq, List.getElem_take, List.getD_eq_getElem?_getD, List.getElem?_eq_getElem (by omega)]
      rfl
end
end Go.Proofs.Ytolbgdgoambliaa
