/-
  The model's code of two series that have to be alike, and the program's test of it.
-/
import Derived.Test.YtgcjpenlcokgjaaGreatDoorPartOf
namespace Go.Proofs.YtgcjpenlcokgjaaGreatDoor
open Go.RowKit

def alikeB (L V L2 V2 : Int) : Bool := L == L2 && V == V2
/-- the code of two series: 1 if one is none, 2 if they are not alike -/
def codeL (L V : Int) (ts : List Tm) (L2 V2 : Int) (ys : List Tm) : Int := if serB L V ts && serB L2 V2 ys then (if alikeB L V L2 V2 then 0 else 2) else 1
theorem codeL_1 {L V : Int} {ts : List Tm} {L2 V2 : Int} {ys : List Tm} (h : serB L V ts = false) : codeL L V ts L2 V2 ys = 1 := by simp [codeL, h]
theorem codeL_2 {L V : Int} {ts : List Tm} {L2 V2 : Int} {ys : List Tm} (h : serB L2 V2 ys = false) : codeL L V ts L2 V2 ys = 1 := by simp [codeL, h]
theorem codeL_3 {L V : Int} {ts : List Tm} {L2 V2 : Int} {ys : List Tm} (h : serB L V ts = true) (h2 : serB L2 V2 ys = true) (h3 : alikeB L V L2 V2 = false) : codeL L V ts L2 V2 ys = 2 := by simp [codeL, h, h2, h3]
theorem codeL_4 {L V : Int} {ts : List Tm} {L2 V2 : Int} {ys : List Tm} (h : serB L V ts = true) (h2 : serB L2 V2 ys = true) (h3 : alikeB L V L2 V2 = true) : codeL L V ts L2 V2 ys = 0 := by simp [codeL, h, h2, h3]

theorem areAlike_c (L V L2 V2 : Int) (a a2 : Option Addr) (n c n2 c2 : Nat) (w : World) :
    Calls Tryz.prog 144 #[.agg #[.int .i64 L, .int .i64 V, .slice a n c], .agg #[.int .i64 L2, .int .i64 V2, .slice a2 n2 c2]] w fun e w' => e = .returned (.bool (alikeB L V L2 V2)) ∧ Below w.heap.size w w' := by
  cases h1 : (L == L2) with
  | false =>
    have e : alikeB L V L2 V2 = false := by simp [alikeB, h1]
    rw [e]
    clear e
    go_enter Tryz.func144, Tryz.ntmps144
    go_wp2
    go_ret
    exact ⟨rfl, below2 _ _ _⟩
  | true =>
    have e : alikeB L V L2 V2 = (V == V2) := by simp [alikeB, h1]
    rw [e]
    clear e
    go_enter Tryz.func144, Tryz.ntmps144
    go_wp2
    go_ret
    exact ⟨rfl, below2 _ _ _⟩

theorem held3c {n m : Nat} {x0 x1 x2 y0 y1 y2 : Value} {W w' : World} (hb : Below W.heap.size W w') (hn : n < W.heap.size) (hm : m < W.heap.size)
    (h : W.cell? ⟨n, 0, none⟩ = some x0 ∧ W.cell? ⟨n, 1, none⟩ = some x1 ∧ W.cell? ⟨n, 2, none⟩ = some x2 ∧ W.cell? ⟨m, 0, none⟩ = some y0 ∧ W.cell? ⟨m, 1, none⟩ = some y1 ∧ W.cell? ⟨m, 2, none⟩ = some y2) :
    w'.cell? ⟨n, 0, none⟩ = some x0 ∧ w'.cell? ⟨n, 1, none⟩ = some x1 ∧ w'.cell? ⟨n, 2, none⟩ = some x2 ∧ w'.cell? ⟨m, 0, none⟩ = some y0 ∧ w'.cell? ⟨m, 1, none⟩ = some y1 ∧ w'.cell? ⟨m, 2, none⟩ = some y2 := held33 hb hn hm h

end Go.Proofs.YtgcjpenlcokgjaaGreatDoor
