/-
  Contracts of PartOf, of the program and of its model: both return the same series and code.
-/
import Derived.Test.YtldjepplklbnoaaPart
namespace Go.Proofs.Ytldjepplklbnoaa
open Go.RowKit

theorem SerPost.err (k : Int) {W w' : World} {e : Ending} (he : e = .returned (.tuple #[.agg #[.int .i64 0, .int .i64 0, .slice none 0 0], .int .i64 k])) (hb : Below W.heap.size W w') : SerPost 0 0 [] k W e w' :=
  ⟨none, 0, he, hb, .inl rfl⟩

theorem NewRow.far3 {lo hi n : Nat} {w : World} {a : Option Addr} {ts : List Tm} {x y z : Value} (h : NewRow lo hi w a ts) (hn : n < lo) :
    NewRow lo (((w.setCell ⟨n, 0, none⟩ x).setCell ⟨n, 1, none⟩ y).setCell ⟨n, 2, none⟩ z).heap.size (((w.setCell ⟨n, 0, none⟩ x).setCell ⟨n, 1, none⟩ y).setCell ⟨n, 2, none⟩ z) a ts := by
  rcases h with h | ⟨g, e, h1, h2, h3, h4⟩
  · exact .inl h
  · refine .inr ⟨g, e, h1, ?_, ((h3.set _ _).set _ _).set _ _, ((h4.setCell (by show n ≠ g; omega) _).setCell (by show n ≠ g; omega) _).setCell (by show n ≠ g; omega) _⟩
    simp only [World.size_setCell]; exact h3.1

theorem ser_term {L V : Int} {ts : List Tm} (h : serB L V ts = true) : ∀ t ∈ ts, termB L V t = true := by
  intro t ht
  obtain ⟨k, hk, rfl⟩ := List.getElem_of_mem ht
  unfold serB at h
  rw [Bool.and_eq_true, List.all_eq_true] at h
  have g := h.2 k (List.mem_range.2 hk)
  simp only [goodAt, List.getElem?_eq_getElem hk, Bool.and_eq_true] at g
  exact g.1
theorem ser_small {L V : Int} {ts : List Tm} (h : serB L V ts = true) : ∀ t ∈ ts, t.s.size ≤ 5 := by
  intro t ht
  have h1 := ser_term h t ht
  have h2 : shapeB L V = true := by unfold serB at h; rw [Bool.and_eq_true] at h; exact h.1
  have h3 := shape_out h2
  simp only [termB, Bool.and_eq_true, decide_eq_true_eq] at h1
  omega

theorem part_mem {m : Int} {ts : List Tm} {t : Tm} (h : t ∈ partL m ts) : t ∈ ts := (List.mem_filter.1 h).1

/-- what PartOf comes to: the code first -/
def partC (L V m : Int) (ts : List Tm) : Int := if serB L V ts then (if inB m 0 5 then 0 else 2) else 1
theorem part_c1 {L V m : Int} {ts : List Tm} (h : serB L V ts = false) : partC L V m ts = 1 := by simp [partC, h]
theorem part_c2 {L V m : Int} {ts : List Tm} (h : serB L V ts = true) (h2 : inB m 0 5 = false) : partC L V m ts = 2 := by simp [partC, h, h2]
theorem part_c3 {L V m : Int} {ts : List Tm} (h : serB L V ts = true) (h2 : inB m 0 5 = true) : partC L V m ts = 0 := by simp [partC, h, h2]

section
variable (L V m : Int) (g : Nat) (ts : List Tm) (w : World)
end
end Go.Proofs.Ytldjepplklbnoaa
