/-
  Contracts of CoefficientOf, of the program and of its model: both return the same three numbers.
  Contracts of ConstantOf, of the program and of its model: both return the same three numbers.
  IsSeries and ConstantOf of the program at a series whose list is handed over as it comes (an empty one may lie nowhere).
-/
import Derived.Test.YtknigggjnjkhbaaTol
import Derived.Test.YtknigggjnjkhbaaImpIs
import Derived.Test.YtknigggjnjkhbaaRes
namespace Go.Proofs.Ytknigggjnjkhbaa
open Go.RowKit

def wordOk (L V : Int) (s : ByteArray) : Bool := decide ((s.size : Int) ≤ V) && wordB L s.data.toList
def coefR (L V : Int) (ts : List Tm) (s : ByteArray) : Int × Int × Int :=
  if serB L V ts then (if wordOk L V s then ((valL s.data.toList ts).1, (valL s.data.toList ts).2, 0) else (0, 0, 2)) else (0, 0, 1)
theorem coef_1 {L V : Int} {ts : List Tm} {s : ByteArray} (h : serB L V ts = false) : coefR L V ts s = (0, 0, 1) := by simp [coefR, h]
theorem coef_2 {L V : Int} {ts : List Tm} {s : ByteArray} (h : serB L V ts = true) (h2 : wordOk L V s = false) : coefR L V ts s = (0, 0, 2) := by simp [coefR, h, h2]
theorem coef_3 {L V : Int} {ts : List Tm} {s : ByteArray} (h : serB L V ts = true) (h2 : wordOk L V s = true) : coefR L V ts s = ((valL s.data.toList ts).1, (valL s.data.toList ts).2, 0) := by simp [coefR, h, h2]

section
variable (L V : Int) (b off cap : Nat) (ts : List Tm) (s : ByteArray) (w : World)

theorem val_found {ts : List Tm} {w0 : List UInt8} {i : Nat} {t : Tm} (hp : Place ts w0 i) (ht : ts[i]? = some t) (he : t.s.data.toList = w0) : valL w0 ts = (t.n, t.d) := by
  obtain ⟨hi, e⟩ := List.getElem?_eq_some_iff.1 ht
  have h := valL_at ts i hi (fun j hj hji => place_before hp j hj hji) (by rw [e]; exact he)
  rw [e] at h; exact h
theorem val_lost {ts : List Tm} {w0 : List UInt8} {i : Nat} (ha : Asc ts) (hp : Place ts w0 i) (h : ∀ t, ts[i]? = some t → t.s.data.toList ≠ w0) : valL w0 ts = (0, 1) :=
  valL_none ts (fun j hj => by
    rcases Nat.lt_trichotomy j i with h1 | h1 | h1
    · exact place_before hp j hj h1
    · subst h1; exact h _ (List.getElem?_eq_getElem hj)
    · exact place_behind ha hp j hj h1)

end
end Go.Proofs.Ytknigggjnjkhbaa

namespace Go.Proofs.Ytknigggjnjkhbaa
open Go.RowKit

theorem const_ok {L V : Int} {ts : List Tm} (h : serB L V ts = true) : wordOk L V { data := #[] } = true := by
  have h2 : shapeB L V = true := by unfold serB at h; rw [Bool.and_eq_true] at h; exact h.1
  have h3 := shape_out h2
  simp only [wordOk, Bool.and_eq_true, decide_eq_true_eq]
  exact ⟨by show (0 : Int) ≤ V; omega, rfl⟩

section
variable (L V : Int) (b off cap : Nat) (ts : List Tm) (w : World)
end
end Go.Proofs.Ytknigggjnjkhbaa

namespace Go.Proofs.Ytknigggjnjkhbaa
open Go.RowKit

set_option maxRecDepth 100000 in
set_option maxHeartbeats 1000000 in
theorem iIs_nil (L V : Int) (a : Option Addr) (cap : Nat) (w : World) :
    Calls Try.prog 28 #[.agg #[.int .i64 L, .int .i64 V, .slice a 0 cap]] w fun e w' => e = .returned (.bool (serB L V [])) ∧ Below w.heap.size w w' := by
  have hs : serB L V [] = shapeB L V := by simp [serB]
  rw [hs]
  cases hsh : shapeB L V with
  | false =>
    have HSH := Lib.hid hsh
    clear hsh
    go_enter Try.func28, Try.ntmps28
    go_wp2_with (go_at_call 58; refine (isShape_c _ _ _).mono ?_; rw [HSH.out]; rintro e w' ⟨rfl, rfl⟩)
    go_ret
    exact ⟨rfl, below1 _ _⟩
  | true =>
    have HSH := Lib.hid hsh
    clear hsh
    go_enter Try.func28, Try.ntmps28
    go_wp2_with (go_at_call 58; refine (isShape_c _ _ _).mono ?_; rw [HSH.out]; rintro e w' ⟨rfl, rfl⟩)
    go_loopw [14] (fun vi wr => vi = .int .i64 0 ∧ Below w.heap.size w wr) (fun _ _ => 0)
    case atStart => exact ⟨rfl, below1 _ _⟩
    case round =>
      obtain ⟨rfl, hB⟩ := hrel
      go_wp2
      go_ret
      exact ⟨rfl, hB⟩
theorem iIs_row (L V : Int) (a : Option Addr) (cap : Nat) (ts : List Tm) (hl : ts.length ≤ 1048576) (hs : ∀ i (h : i < ts.length), (ts[i]).s.size ≤ maxLen) (w : World) (hr : Row w a ts) :
    Calls Try.prog 28 #[.agg #[.int .i64 L, .int .i64 V, .slice a ts.length cap]] w fun e w' => e = .returned (.bool (serB L V ts)) ∧ Below w.heap.size w w' := by
  rcases hr with rfl | ⟨b, off, rfl, hb, ht⟩
  · exact iIs_nil L V a cap w
  · exact iIsSeries_c L V b off cap ts hl hs w hb ht
end Go.Proofs.Ytknigggjnjkhbaa
