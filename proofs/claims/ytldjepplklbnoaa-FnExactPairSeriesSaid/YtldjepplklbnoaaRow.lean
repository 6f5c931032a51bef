/-
  A row of terms that an argument brings, and cells behind calls.
-/
import Derived.Test.YtldjepplklbnoaaImpIs
import Derived.Test.YtldjepplklbnoaaShut
namespace Go.Proofs.Ytldjepplklbnoaa
open Go.RowKit

/-- an argument's terms: none, or a row in memory -/
def Row (w : World) (a : Option Addr) (ts : List Tm) : Prop := ts = [] ∨ ∃ b off, a = some ⟨b, off, none⟩ ∧ b < w.heap.size ∧ TermsIn w b off ts
theorem Row.below {w w' : World} {a : Option Addr} {ts : List Tm} (h : Row w a ts) (hb : Below w.heap.size w w') : Row w' a ts := by
  rcases h with h | ⟨b, off, h1, h2, h3⟩
  · exact .inl h
  · exact .inr ⟨b, off, h1, Nat.lt_of_lt_of_le h2 hb.size, h3.below hb h2⟩

theorem szTermS_row (a : Option Addr) (cap : Nat) (ts : List Tm) (hl : ts.length ≤ maxLen) (hs : ∀ i (h : i < ts.length), (ts[i]).s.size ≤ maxLen) (left : Int) (h0 : 0 ≤ left ∧ left ≤ 1048576) (w : World) (hr : Row w a ts) :
    Calls Try.prog 10 #[.slice a ts.length cap, .int .i64 left] w (SzPost ts.length left w) := by
  by_cases hbig : left < (ts.length : Int)
  · exact szTermS_big _ ts.length cap a rfl hl left h0 hbig w
  · rcases hr with rfl | ⟨b, off, rfl, hb, ht⟩
    · have e0 : (0 : Int) ≤ left := h0.1
      go_enter Try.func10, Try.ntmps10
      go_wp2
      go_loopw [1, 5] (fun vl vi wr => vl = .int .i64 left ∧ vi = .int .i64 0 ∧ wr = w) (fun _ _ _ => 0)
      case atStart => exact ⟨rfl, rfl, rfl⟩
      case round =>
        obtain ⟨rfl, rfl, rfl⟩ := hrel
        go_wp2
        go_ret
        exact ⟨.inr ⟨left, h0.1, h0.2, by simpa using h0.1, rfl⟩, Below.refl _ _⟩
    · exact szTermS_c b off cap ts left h0 (by omega) hs w hb ht

theorem held33 {i j : Nat} {a b c x y z : Value} {W w' : World} (hb : Below W.heap.size W w') (hi : i < W.heap.size) (hj : j < W.heap.size)
    (h : W.cell? ⟨i, 0, none⟩ = some a ∧ W.cell? ⟨i, 1, none⟩ = some b ∧ W.cell? ⟨i, 2, none⟩ = some c ∧ W.cell? ⟨j, 0, none⟩ = some x ∧ W.cell? ⟨j, 1, none⟩ = some y ∧ W.cell? ⟨j, 2, none⟩ = some z) :
    w'.cell? ⟨i, 0, none⟩ = some a ∧ w'.cell? ⟨i, 1, none⟩ = some b ∧ w'.cell? ⟨i, 2, none⟩ = some c ∧ w'.cell? ⟨j, 0, none⟩ = some x ∧ w'.cell? ⟨j, 1, none⟩ = some y ∧ w'.cell? ⟨j, 2, none⟩ = some z :=
  ⟨(hb.cell (p := ⟨i, 0, none⟩) hi).trans h.1, (hb.cell (p := ⟨i, 1, none⟩) hi).trans h.2.1, (hb.cell (p := ⟨i, 2, none⟩) hi).trans h.2.2.1,
    (hb.cell (p := ⟨j, 0, none⟩) hj).trans h.2.2.2.1, (hb.cell (p := ⟨j, 1, none⟩) hj).trans h.2.2.2.2.1, (hb.cell (p := ⟨j, 2, none⟩) hj).trans h.2.2.2.2.2⟩
end Go.Proofs.Ytldjepplklbnoaa
