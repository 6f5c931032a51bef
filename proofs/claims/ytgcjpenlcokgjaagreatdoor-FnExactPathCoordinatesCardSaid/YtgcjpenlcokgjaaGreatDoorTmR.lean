/-
  Lists of terms that a law hands over and gets back: made, compared, marked.
-/
import Derived.Test.YtgcjpenlcokgjaaGreatDoorRes
namespace Go.Proofs.YtgcjpenlcokgjaaGreatDoor
open Go.RowKit

/-- a list of terms in a block of its own -/
def GTm (lo hi : Nat) (w : World) (g : Nat) (ts : List Tm) : Prop := lo ≤ g ∧ g < hi ∧ Made w g (ts.length * 3) ∧ TermsIn w g 0 ts
theorem GTm.below {lo hi B g : Nat} {w w' : World} {ts : List Tm} (h : GTm lo hi w g ts) (hb : Below B w w') (hh : hi ≤ B) : GTm lo hi w' g ts := ⟨h.1, h.2.1, h.2.2.1.below hb (by have := h.2.1; omega), h.2.2.2.below hb (by have := h.2.1; omega)⟩
theorem GTm.grown {lo hi g : Nat} {w w' : World} {ts : List Tm} {r : Option Nat} (h : GTm lo hi w g ts) (hg : w.grownBy w' r) (hr : ∀ g, r = some g → g < lo ∨ hi ≤ g) : GTm lo hi w' g ts := by
  have hne : some g ≠ r := fun e => by have := hr g e.symm; have := h.1; have := h.2.1; omega
  exact ⟨h.1, h.2.1, h.2.2.1.grown hg hne, h.2.2.2.grown hg h.2.2.1.1 hne⟩
theorem GTm.new {lo hi g : Nat} {w : World} {ts : List Tm} (h : GTm lo hi w g ts) : NewRow lo hi w (some ⟨g, 0, none⟩) ts := .inr ⟨g, rfl, h.1, h.2.1, h.2.2.1, h.2.2.2⟩
theorem GTm.row {lo hi g : Nat} {w : World} {ts : List Tm} (h : GTm lo hi w g ts) : Row w (some ⟨g, 0, none⟩) ts := h.new.row
theorem GTm.lt {lo hi g : Nat} {w : World} {ts : List Tm} (h : GTm lo hi w g ts) : g < w.heap.size := h.2.2.1.1
/-- what a function that returns terms and a code comes to -/
def TermsPost (ts : List Tm) (c : Int) (W : World) (e : Ending) (w' : World) : Prop :=
  ∃ (a : Option Addr) (cap : Nat), e = .returned (.tuple #[.slice a ts.length cap, .int .i64 c]) ∧ Below W.heap.size W w' ∧ NewRow W.heap.size w'.heap.size w' a ts
theorem TermsPost.err {W w' : World} (c : Int) {e : Ending} (he : e = .returned (.tuple #[.slice none 0 0, .int .i64 c])) (h : Below W.heap.size W w') : TermsPost [] c W e w' := ⟨none, 0, he, h, .inl rfl⟩
theorem toTermS_g (a : Option Addr) (cap : Nat) (ts : List Tm) (hl : ts.length ≤ 1048576) (w : World) (hr : Row w a ts) :
    Calls Tryz.prog 10 #[.slice a ts.length cap] w fun e w' => ∃ g, e = .returned (.slice (some ⟨g, 0, none⟩) ts.length ts.length) ∧ Below w.heap.size w w' ∧ GTm w.heap.size w'.heap.size w' g ts :=
  (toTermS_c a cap ts hl w hr).mono fun _ _ ⟨g, he, hb, h1, h2, h3⟩ => ⟨g, he, hb, h1, h2.1, h2, h3⟩
theorem markTermS_row (lo hi : Nat) (a : Option Addr) (cap : Nat) (ts : List Tm) (k : Int) (hk : 0 < k) (hk2 : k + 3 * (ts.length : Int) < 100000000) (w : World) (h : NewRow lo hi w a ts) :
    Calls Tryz.prog 14 #[.slice a ts.length cap, .int .i64 k] w (MarkR lo hi a (marked k ts) (k + 3 * ts.length) w) := by
  rcases h with rfl | ⟨g, rfl, hlo, hhi, hM, hT⟩
  · clear hk2
    go_enter Tryz.func14, Tryz.ntmps14
    go_wp2
    go_loopw [1, 5] (fun vk vi wr => vk = .int .i64 k ∧ vi = .int .i64 0 ∧ w = wr) (fun _ _ _ => 0)
    case atStart => exact ⟨rfl, rfl, rfl⟩
    case round =>
      obtain ⟨rfl, rfl, rfl⟩ := hrel
      go_wp2
      go_ret
      exact ⟨none, by simp, ⟨rfl, rfl, rfl, Nat.le_refl _, fun _ _ _ => rfl⟩, fun g h => (by cases h), .inl rfl⟩
  · refine (markTermS_c g cap ts.length k hk hk2 w hM ts rfl).mono ?_
    rintro e w1 ⟨rfl, hG, hM1, hT1⟩
    exact ⟨some g, rfl, hG, fun g' e => by cases e; exact ⟨hlo, hhi⟩, .inr ⟨g, rfl, hlo, hhi, by rw [marked_length]; exact hM1, hT1⟩⟩
theorem heldTermS_row (lo hi : Nat) (a : Option Addr) (cap : Nat) (ts : List Tm) (k : Int) (hk : 0 < k) (hk2 : k + 3 * (ts.length : Int) < 100000000) (w : World) (h : NewRow lo hi w a (marked k ts)) :
    Calls Tryz.prog 23 #[.slice a ts.length cap, .int .i64 k] w fun e w' => e = .returned (.int .i64 (k + 3 * ts.length)) ∧ Below w.heap.size w w' := by
  rcases h with h | ⟨g, rfl, hlo, hhi, hM, hT⟩
  · have h0 : ts = [] := by
      cases ts with
      | nil => rfl
      | cons t r => simp [marked] at h
    subst h0
    clear hk2 h
    go_enter Tryz.func23, Tryz.ntmps23
    go_wp2
    go_loopw [1, 5] (fun vk vi wr => vk = .int .i64 k ∧ vi = .int .i64 0 ∧ w = wr) (fun _ _ _ => 0)
    case atStart => exact ⟨rfl, rfl, rfl⟩
    case round =>
      obtain ⟨rfl, rfl, rfl⟩ := hrel
      go_wp2
      go_ret
      exact ⟨by simp, Below.refl _ _⟩
  · exact heldTermS_c g cap ts.length k hk hk2 w hM.1 ts rfl hT
/-- a box of three cells that a law keeps -/
def B3 (w : World) (g : Nat) (x y z : Value) : Prop := g < w.heap.size ∧ w.cell? ⟨g, 0, none⟩ = some x ∧ w.cell? ⟨g, 1, none⟩ = some y ∧ w.cell? ⟨g, 2, none⟩ = some z
theorem B3.below {B : Nat} {w w' : World} {g : Nat} {x y z : Value} (h : B3 w g x y z) (hb : Below B w w') (hg : g < B) : B3 w' g x y z :=
  ⟨Nat.lt_of_lt_of_le h.1 hb.size, (hb.cell (p := ⟨g, 0, none⟩) hg).trans h.2.1, (hb.cell (p := ⟨g, 1, none⟩) hg).trans h.2.2.1, (hb.cell (p := ⟨g, 2, none⟩) hg).trans h.2.2.2⟩
theorem B3.grown {w w' : World} {g : Nat} {x y z : Value} {r : Option Nat} (h : B3 w g x y z) (hg : w.grownBy w' r) (hr : r ≠ some g) : B3 w' g x y z := by
  have hb : w'.heap[g]? = w.heap[g]? := hg.block g h.1 (fun e => hr e.symm)
  have hc : ∀ i, w'.cell? ⟨g, i, none⟩ = w.cell? ⟨g, i, none⟩ := fun i => World.cell?_of_block hb
  exact ⟨Nat.lt_of_lt_of_le h.1 hg.size, (hc 0).trans h.2.1, (hc 1).trans h.2.2.1, (hc 2).trans h.2.2.2⟩
theorem B3.new (w : World) (x y z : Value) (t : TypeId) : B3 (w.alloc (.cells #[x, y, z] t)) w.heap.size x y z := ⟨by simp, by go_simp, by go_simp, by go_simp⟩
end Go.Proofs.YtgcjpenlcokgjaaGreatDoor
