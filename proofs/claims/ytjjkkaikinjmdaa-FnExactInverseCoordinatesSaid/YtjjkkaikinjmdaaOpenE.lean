/-
  A list of the laws' own terms, handed in by itself: opened to its terms.
-/
import Derived.Test.YtjjkkaikinjmdaaOpenR
namespace Go.Proofs.Ytjjkkaikinjmdaa
open Go.ChangeShapes Go.WideShapes Go.ChangeAt Go.RowKit

section
variable {H : Type} {enc : TypeId × Value → H} {w : World} {base : Nat} {spare : Nat → Bool} {held : Bool}
set_option maxRecDepth 100000 in
theorem open_terms {r : Reach} {b0 : Nat} {v : Value} {d : DataW H} {p : List MemPlace}
    (hv : Value.okWide Try.prog w r b0 22 v) (h : DataW.Trod enc Try.prog w base spare held 22 v d p) :
    ∃ (a : Option Addr) (cap : Nat) (ts : List Tm), v = .slice a ts.length cap ∧ ts.length ≤ maxLen ∧ (∀ i (hi : i < ts.length), (ts[i]).s.size ≤ maxLen) ∧ Row w a ts := by
  obtain ⟨a0, len1, cap1, rfl⟩ := okWide_slice Try.underlying22 hv
  obtain ⟨fuel, h⟩ := h
  rcases Deep.open_slice Try.underlying22 h with ⟨e2, _⟩ | ⟨a, len, cap, m, n2, D, Pl, e2, _, hlc, hcap, hm, hx, hel⟩
  · simp [Value.cells] at e2
    obtain ⟨rfl, rfl, rfl⟩ := e2
    exact ⟨none, 0, [], rfl, by simp, fun i hi => absurd hi (Nat.not_lt_zero _), .inl rfl⟩
  · simp [Value.cells] at e2
    obtain ⟨rfl, rfl, rfl⟩ := e2
    have hlm : len1 ≤ m := by rw [hm]; split <;> omega
    rw [lawsTerm_cells] at hel hx
    obtain ⟨ts, htl, hts⟩ := list_of (m := len1) (p := fun i t => w.cell? (a.add (i * 3)) = some (.string t.s) ∧ w.cell? (a.add (i * 3 + 1)) = some (.int .i64 t.n) ∧ w.cell? (a.add (i * 3 + 2)) = some (.int .i64 t.d) ∧ t.s.size ≤ maxLen) (fun i hi => by
      obtain ⟨cs', hc, ht⟩ := hel i (by omega)
      obtain ⟨s, n, d, rfl, hs⟩ := open_term ht
      obtain ⟨_, _, hat⟩ := World.cells?_some hc
      refine ⟨⟨s, n, d⟩, ?_, ?_, ?_, hs⟩
      · exact hat 0 (by omega)
      · rw [← Go.Deep.add_add]; exact hat 1 (by omega)
      · rw [← Go.Deep.add_add]; exact hat 2 (by omega))
    refine ⟨some a, cap1, ts, by rw [htl], by omega, fun i hi => (hts i hi).2.2.2, ?_⟩
    by_cases h0 : ts = []
    · exact .inl h0
    · have hpos : 0 < ts.length := List.length_pos_iff.2 h0
      obtain ⟨hsp, hab⟩ := addr_of (hts 0 hpos).1
      have hbase : (a.add (0 * 3)) = a := by simp [Addr.add]
      rw [hbase] at hsp hab
      obtain ⟨b, off, sp⟩ := a
      simp only at hsp hab
      subst hsp
      refine .inr ⟨b, off, rfl, hab, fun i hi => ?_⟩
      have hi2 := hts i hi
      simp only [add_form] at hi2
      exact ⟨hi2.1, hi2.2.1, hi2.2.2.1⟩
end
end Go.Proofs.Ytjjkkaikinjmdaa
