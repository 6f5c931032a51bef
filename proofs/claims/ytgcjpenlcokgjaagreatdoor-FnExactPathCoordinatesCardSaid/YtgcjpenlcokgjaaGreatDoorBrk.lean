/-
  Contracts of the functions that make brackets, of the program and of its model.
-/
import Derived.Test.YtgcjpenlcokgjaaGreatDoorCutS
import Derived.Deep.RegionHeld3
namespace Go.Proofs.YtgcjpenlcokgjaaGreatDoor
open Go.RowKit

/-- a bracket: a letter, or a pair -/
inductive Brk where
  | leaf (s : ByteArray)
  | node (l r : Brk)
/-- its text -/
def Brk.text : Brk → ByteArray
  | .leaf s => s
  | .node l r => ({ data := #[91] } : ByteArray) ++ l.text ++ { data := #[44] } ++ r.text ++ { data := #[93] }
/-- the bracket of a word -/
inductive BrkOf : ByteArray → Brk → Prop
  | one (s : ByteArray) : s.size = 1 → BrkOf s (.leaf s)
  | two (s : ByteArray) (i : Nat) (l r : Brk) : 2 ≤ s.size → IsCut s i → BrkOf (s.extract 0 i) l → BrkOf (s.extract i s.size) r → BrkOf s (.node l r)
theorem brk_is : ∀ (k : Nat) (s : ByteArray), s.size ≤ k → 1 ≤ s.size → ∃ b, BrkOf s b
  | 0, s, h, h1 => by omega
  | k + 1, s, h, h1 => by
    by_cases h0 : s.size = 1
    · exact ⟨_, .one s h0⟩
    · obtain ⟨i, hi⟩ := cut_is (s := s) (by omega)
      have hi1 := hi.1
      have hi2 := hi.2.1
      obtain ⟨l, hl⟩ := brk_is k (s.extract 0 i) (by rw [ByteArray.size_extract]; omega) (by rw [ByteArray.size_extract]; omega)
      obtain ⟨r, hr⟩ := brk_is k (s.extract i s.size) (by rw [ByteArray.size_extract]; omega) (by rw [ByteArray.size_extract]; omega)
      exact ⟨_, .two s i l r (by omega) hi hl hr⟩
theorem BrkOf.size : ∀ {s : ByteArray} {b : Brk}, BrkOf s b → b.text.size + 3 = 4 * s.size
  | _, _, .one s h => by show s.size + 3 = _; omega
  | _, _, .two s i l r h hi hl hr => by
    have a := hl.size
    have b := hr.size
    have hi1 := hi.1
    have hi2 := hi.2.1
    rw [ByteArray.size_extract] at a b
    have e1 : (({ data := #[91] } : ByteArray)).size = 1 := rfl
    have e2 : (({ data := #[44] } : ByteArray)).size = 1 := rfl
    have e3 : (({ data := #[93] } : ByteArray)).size = 1 := rfl
    simp only [Brk.text, ByteArray.size_append, e1, e2, e3]
    omega
theorem below_next {a w w' : World} (h : Below a.heap.size a w) (hb : Below w.heap.size w w') : Below a.heap.size a w' := h.trans (hb.mono h.size)

/-- the bracket lies in memory -/
def InT (w : World) : Brk → Nat → Prop
  | .leaf s, p => w.cell? ⟨p, 0, none⟩ = some (.string s) ∧ w.cell? ⟨p, 1, none⟩ = some (.pointer none)
  | .node l r, p => ∃ bl br : Nat, w.cell? ⟨p, 1, none⟩ = some (.pointer (some ⟨bl, 0, none⟩)) ∧ w.cell? ⟨p, 2, none⟩ = some (.pointer (some ⟨br, 0, none⟩)) ∧ InT w l bl ∧ InT w r br
theorem InT.below {w w' : World} (hb : Below w.heap.size w w') : ∀ {b : Brk} {p : Nat}, InT w b p → InT w' b p
  | .leaf s, p, h => ⟨cell_later hb h.1, cell_later hb h.2⟩
  | .node l r, p, h => by
    obtain ⟨bl, br, h1, h2, h3, h4⟩ := h
    exact ⟨bl, br, cell_later hb h1, cell_later hb h2, InT.below hb h3, InT.below hb h4⟩
theorem keepT {w w' w'' : World} {p : Nat} {u v : Value} (hb : Below w'.heap.size w' w'') (h : w'.cell? ⟨p, 1, none⟩ = some u ∧ w'.cell? ⟨p, 2, none⟩ = some v ∧ Below w.heap.size w w') : w''.cell? ⟨p, 1, none⟩ = some u ∧ w''.cell? ⟨p, 2, none⟩ = some v ∧ Below w.heap.size w w'' :=
  ⟨cell_later hb h.1, cell_later hb h.2.1, below_next h.2.2 hb⟩
theorem keepD {w w' : World} {p : Nat} {u v : Value} (h : w'.cell? ⟨p, 1, none⟩ = some u ∧ w'.cell? ⟨p, 2, none⟩ = some v ∧ Below w.heap.size w w') : w'.drew.cell? ⟨p, 1, none⟩ = some u ∧ w'.drew.cell? ⟨p, 2, none⟩ = some v ∧ Below w.heap.size w w'.drew :=
  ⟨h.1, h.2.1, h.2.2.drew⟩
set_option maxRecDepth 100000 in
set_option maxHeartbeats 4000000 in
theorem bracketOf_c : ∀ {s : ByteArray} {b : Brk}, BrkOf s b → s.size ≤ 1000 → ∀ w : World,
    Calls Tryz.prog 76 #[.string s, .func (.func 77) #[] #[]] w fun e w' => (∃ p : Nat, e = .returned (.pointer (some ⟨p, 0, none⟩)) ∧ InT w' b p) ∧ Below w.heap.size w w' := by
  intro s b hb
  induction hb with
  | one s h =>
    intro hs w
    have h' : (s.size : Int) = 1 := by omega
    go_enter Tryz.func76, Tryz.ntmps76
    go_wp2_with fail
    refine (copied_c s (by omega) _).mono ?_
    rintro e w1 ⟨rfl, hb1⟩
    go_wp2
    go_ret
    exact ⟨⟨w1.heap.size, rfl, by simp [InT, go_sem]⟩, hb1.trans ((below1 _ _).mono hb1.size)⟩
  | two s i l r h2 hi hl hr ihl ihr =>
    intro hs w
    have HI := Lib.hid hi
    have hi1 := hi.1
    have hi2 := hi.2.1
    have h' : ¬ (s.size : Int) = 1 := by omega
    have HLc := Lib.hid (ihl (by rw [ByteArray.size_extract]; omega))
    have HRc := Lib.hid (ihr (by rw [ByteArray.size_extract]; omega))
    clear ihl ihr hl hr hi
    go_enter Tryz.func76, Tryz.ntmps76
    go_wp2_with fail
    refine (aheadOf_c s i HI.out (by omega) _).mono ?_
    rintro e w1 ⟨rfl, hb1⟩
    go_wp2_with fail
    refine (HLc.out _).mono ?_
    rintro e w2 ⟨⟨pl, rfl, hTl⟩, hb2⟩
    have HTl := Lib.hid hTl
    have HB2 := Lib.hid (below_next hb1 hb2)
    clear hTl hb1 hb2
    go_wp2_with fail
    refine (HRc.out _).mono ?_
    rintro e w3 ⟨⟨pr, rfl, hTr⟩, hb3⟩
    have HTl3 := Lib.hid (HTl.out.below hb3)
    have HTr := Lib.hid hTr
    have HB3 := Lib.hid (below_next HB2.out hb3)
    clear hTr hb3
    go_wp2
    go_ret
    exact ⟨⟨w3.heap.size, rfl, pl, pr, by simp [go_sem], by simp [go_sem], HTl3.out.below (below1 _ _), HTr.out.below (below1 _ _)⟩, below_next HB3.out (below1 _ _)⟩

end Go.Proofs.YtgcjpenlcokgjaaGreatDoor
