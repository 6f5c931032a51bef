/-
  Draws of words: a damaged text, a word or nearly one.
-/
import Derived.Test.YtolbgdgoambliaaDrw
import Derived.Test.YtolbgdgoambliaaMapV
namespace Go.Proofs.Ytolbgdgoambliaa
open Go.RowKit

theorem strs_new (w : World) (ss : List ByteArray) (t : TypeId) (i : Nat) (hi : i < ss.length) : (w.alloc (.cells (ss.map Value.string).toArray t)).cell? ⟨w.heap.size, i, none⟩ = some (.string ss[i]) := by
  rw [World.cell?_alloc_new]
  simp [hi]
def chars : List ByteArray := [⟨#[48]⟩, ⟨#[49]⟩, ⟨#[50]⟩, ⟨#[57]⟩, ⟨#[47]⟩, ⟨#[42]⟩, ⟨#[43]⟩, ⟨#[45]⟩, ⟨#[32]⟩, ⟨#[44]⟩, ⟨#[91]⟩, ⟨#[10]⟩]
theorem chars_size : ∀ s ∈ chars, s.size = 1 := by
  intro s hs
  simp only [chars, List.mem_cons, List.not_mem_nil, or_false] at hs
  rcases hs with rfl | rfl | rfl | rfl | rfl | rfl | rfl | rfl | rfl | rfl | rfl | rfl <;> rfl

/-- what a draw of two values comes to -/
def Draw2 (Q R : Value → Prop) (W : World) (e : Ending) (w' : World) : Prop := ∃ v u, e = .returned (.tuple #[v, u]) ∧ Q v ∧ R u ∧ Below W.heap.size W w'
def IsZ (v : Value) : Prop := ∃ z, Z64 z ∧ v = .int .i64 z
theorem z64_of {z : Int} (h : z = 0 ∨ z = 1 ∨ z = 2 ∨ z = 3 ∨ z = 4) : Z64 z := by unfold Z64; omega
theorem digits7 : ∀ z ∈ ([1, 2, 2, 3, 3, 4, 0] : List Int), Z64 z := by
  intro z hz
  simp only [List.mem_cons, List.not_mem_nil, or_false] at hz
  exact z64_of (by omega)

theorem big_c (a : Option Addr) (cap n : Nat) (w : World) :
    Calls Try.prog 4 #[.slice a n cap] w fun e w' => e = .returned (.bool (decide (4096 < (n : Int)))) ∧ w = w' := by
  go_enter Try.func4, Try.ntmps4
  go_wp2
  go_ret
  exact ⟨rfl, rfl⟩

theorem BRow.next {w w' : World} {a : Option Addr} {zs : List Int} (h : BRow w.heap.size w a zs) (hb : Below w.heap.size w w') : BRow w'.heap.size w' a zs :=
  (h.same (fun b o hl => hb.cell (p := ⟨b, o, none⟩) hl)).mono hb.size

/-- a pair that a function returns, and leaves alone what was there -/
def Two (v u : Value) (W : World) (e : Ending) (w' : World) : Prop := e = .returned (.tuple #[v, u]) ∧ Below W.heap.size W w'
theorem Two.mk (v u : Value) (W : World) : ∀ e w', (e = .returned (.tuple #[v, u]) ∧ W = w') → Two v u W e w' := by
  rintro e w' ⟨rfl, rfl⟩
  exact ⟨rfl, Below.refl _ _⟩

set_option maxRecDepth 100000 in
theorem words5_c (a1 a2 : Option Addr) (c1 c2 : Nat) (ss : List ByteArray) (hl : ss.length ≤ 1048576) (w : World) (h1 : SRow w a1 ss) (h2 : SRow w a2 ss) :
    Calls Try.prog 8 #[.slice a1 ss.length c1, .slice a2 ss.length c2] w fun e w' => e = .returned (.bool true) ∧ Below w.heap.size w w' := by
  have H1 := Lib.hid h1
  have H2 := Lib.hid h2
  clear h1 h2
  go_enter Try.func8, Try.ntmps8
  go_wp2
  go_loopw [5] (fun vi wr => ∃ k : Nat, k ≤ ss.length ∧ vi = .int .i64 k ∧ Below w.heap.size w wr) (fun vi _ => ss.length - (intOf vi).toNat)
  case atStart => exact ⟨0, Nat.zero_le _, rfl, Below.refl _ _⟩
  case round =>
    obtain ⟨k, hk, rfl, hB⟩ := hrel
    by_cases hlt : k < ss.length
    · rcases H1.out with h | ⟨b1, o1, rfl, hb1, t1⟩
      · rw [h] at hlt; simp at hlt
      rcases H2.out with h | ⟨b2, o2, rfl, hb2, t2⟩
      · rw [h] at hlt; simp at hlt
      have d1 := t1.below hB hb1 k hlt
      have d2 := t2.below hB hb2 k hlt
      have hE := str_neq_same (ss[k])
      generalize ss[k] = s at d1 d2 hE
      have HB := Lib.hid hB
      clear hB t1 t2
      have e0 : (0 : Int) ≤ (k : Int) := by omega
      have e1 : (k : Int) < (ss.length : Int) := by omega
      go_wp2
      go_quiet (fail)
      go_wp2
      go_roundw
      case rel => exact ⟨k + 1, by omega, by go_num, ⟨HB.out.os, HB.out.tape, HB.out.output, HB.out.size, HB.out.block⟩⟩
      case measure => simp [intOf]; omega
    · go_wp2
      go_ret
      exact ⟨rfl, hB⟩

end Go.Proofs.Ytolbgdgoambliaa
