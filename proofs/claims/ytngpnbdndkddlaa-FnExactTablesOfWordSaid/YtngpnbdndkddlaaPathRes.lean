/-
  Paths in the making: one row more; the model's copies of steps and paths; the program's path of moves.
-/
import Derived.Test.YtngpnbdndkddlaaHds
import Derived.Test.YtngpnbdndkddlaaEndOf
namespace Go.Proofs.Ytngpnbdndkddlaa
open Go.RowKit

/-- what a function that returns a path and a code comes to -/
def PathPost (qs : List (List Int)) (c : Int) (W : World) (e : Ending) (w' : World) : Prop :=
  ∃ (a : Option Addr) (cap : Nat), e = .returned (.tuple #[.slice a qs.length cap, .int .i64 c]) ∧ Below W.heap.size W w' ∧ NewP W.heap.size w'.heap.size w' a qs

theorem wpList_append_path {ops : Array Oper} {rest : List Oper} {o : Oper} {act : Act} {Q : Exit → Act → World → Prop} (hgd : o.guard = none) (s x : Operand)
    (ho : o.op = .call { callee := .builtin .append, args := #[s, x], argTypes := #[29, 29] })
    (base : Nat) (w0 w : World) (b : Option Addr) (l c : Nat) (ps : List (List Int)) (z : List Int) (a : Option Addr) (n k : Nat) (hs : act.eval s = .slice b l c) (hl : l = ps.length) (hown : OwnP w0 base (.slice b l c) ps) (hb : Below w0.heap.size w0 w)
    (hz : NewI w0.heap.size w.heap.size w a z) (hn : n = z.length) (hx : act.eval x = .slice (some ⟨w.heap.size, 0, none⟩) 1 1) (hbig : l + 1 ≤ 4194304) (hbase : base ≤ w0.heap.size)
    (h : ∀ a' c' w', OwnP w' base (.slice a' (l + 1) c') (ps ++ [z]) → Below base w w' → w.heap.size ≤ w'.heap.size → wpList Try.prog ops Q rest (act.put o.dst (.slice a' (l + 1) c')) w') :
    wpList Try.prog ops Q (o :: rest) act (w.alloc (.cells #[.slice a n k] 41)) := by
  obtain ⟨hds, h1, h2, h3, h4⟩ := hown
  subst hn
  have hbw := hb.trans ((below1 w (.cells #[.slice a z.length k] 41)).mono hb.size)
  refine wpList_append_hds hgd s x ho base (.slice b l c) l hds [⟨a, z.length, k⟩] hs (by rw [h2]; exact hl) (h1.below hbw (fun g hg => (h1.lt g hg).2)) (some ⟨w.heap.size, 0, none⟩) 1 1 hx rfl (.inr ⟨w.heap.size, 0, rfl, hds_one w ⟨a, z.length, k⟩⟩) hbig (by have := hb.size; simp; omega) fun a' c' w' hO hG hv => ?_
  refine h a' c' w' (OwnP.snoc (B := w.heap.size) h1 h2 h3 h4 hbw (hz.below (below1 w _) (Nat.le_refl _)) (by simp) hbase hO hG hv) ?_ ?_
  · exact ((below1 w (.cells #[.slice a z.length k] 41)).mono (by have := hb.size; omega)).trans (below_of_grown hG (fun g hg => (h1.lt g hg).1) (by have := hb.size; simp; omega))
  · have h9 := hG.size
    rw [World.size_alloc] at h9
    omega

def timesI (k : Int) (z : List Int) : List Int := z.map fun x => k * x
theorem timesI_length (k : Int) (z : List Int) : (timesI k z).length = z.length := by simp [timesI]

/-- the first numbers of a move -/
def stepOf (D : Nat) (v : Mv) : List Int := [v.a, v.b, v.c].take D
theorem stepOf_length {D : Nat} (h : D ≤ 3) (v : Mv) : (stepOf D v).length = D := by simp [stepOf]; omega
theorem stepOf_of {D : Nat} (h : D ≤ 3) {z : List Int} (hz : z.length = D) : stepOf D (mvOf z) = z := by
  apply List.ext_getElem
  · rw [stepOf_length h, hz]
  · intro i h1 h2
    have hi : i = 0 ∨ i = 1 ∨ i = 2 := by omega
    simp only [stepOf, List.getElem_take, mvOf]
    rcases hi with rfl | rfl | rfl <;> simp [List.getElem?_eq_getElem h2]
theorem flat_steps {D : Nat} (h : D ≤ 3) : ∀ ms : List Mv, flat (ms.map (stepOf D)) = D * ms.length
  | [] => by simp [flat]
  | v :: r => by simp only [List.map_cons, flat, stepOf_length h, flat_steps h r, List.length_cons, Nat.mul_add]; omega

/-- what a function that returns new rows comes to -/
def RowsPost (qs : List (List Int)) (W : World) (e : Ending) (w' : World) : Prop :=
  ∃ (a : Option Addr) (cap : Nat), e = .returned (.slice a qs.length cap) ∧ Below W.heap.size W w' ∧ NewP W.heap.size w'.heap.size w' a qs
end Go.Proofs.Ytngpnbdndkddlaa
