/-
  Moves (arrays of three numbers): sums, multiples.
  Rows of moves in memory, owned by a call: what append leaves.
-/
import Derived.Test.YtngpnbdndkddlaaIntC
import Derived.Test.YtngpnbdndkddlaaPaths
import Derived.Laws.Rows
import Derived.LoopN
namespace Go.Proofs.Ytngpnbdndkddlaa
open Go.RowKit

/-- the three numbers of a move -/
structure Mv where
  a : Int
  b : Int
  c : Int
def Mv.small (m : Int) (v : Mv) : Prop := (-m ≤ v.a ∧ v.a ≤ m) ∧ (-m ≤ v.b ∧ v.b ≤ m) ∧ (-m ≤ v.c ∧ v.c ≤ m)
def addM (v w : Mv) : Mv := ⟨v.a + w.a, v.b + w.b, v.c + w.c⟩
def mulM (v : Mv) (k : Int) : Mv := ⟨v.a * k, v.b * k, v.c * k⟩

/-- the numbers of a step, and 0 for those that it lacks -/
def mvOf (z : List Int) : Mv := ⟨z.getD 0 0, z.getD 1 0, z.getD 2 0⟩

theorem make_three : ∀ w : World, (Instr.makeSlice 41 (.int .i64 3) (.int .i64 3)).run Try.prog w = .ok (.slice (some ⟨w.heap.size, 0, none⟩) 3 3) (w.alloc (.cells #[.int .i64 0, .int .i64 0, .int .i64 0] 2)) := fun _ => by kernel_rfl
theorem get_zeros (z : List Int) (i : Nat) (hi : i < 3) (h : i < (z ++ [0, 0, 0]).length) : (z ++ [0, 0, 0])[i] = z.getD i 0 := by
  rw [List.getD_eq_getElem?_getD]
  by_cases hlt : i < z.length
  · rw [List.getElem_append_left hlt, List.getElem?_eq_getElem hlt]; rfl
  · rw [List.getElem_append_right (by omega), List.getElem?_eq_none (by omega)]
    have h3 : i - z.length = 0 ∨ i - z.length = 1 ∨ i - z.length = 2 := by omega
    have key : ∀ j (hj : j < [(0 : Int), 0, 0].length), [(0 : Int), 0, 0][j] = 0 := fun j hj => by
      have : j = 0 ∨ j = 1 ∨ j = 2 := by simp at hj; omega
      rcases this with rfl | rfl | rfl <;> rfl
    exact key _ _

end Go.Proofs.Ytngpnbdndkddlaa

namespace Go.Proofs.Ytngpnbdndkddlaa
open Go.RowKit

/-- the terms stand in a row of cells of block `b` from `off` on -/
def MvsIn (w : World) (b off : Nat) (ts : List Mv) : Prop :=
  ∀ i (h : i < ts.length), w.cell? ⟨b, off + i * 3, none⟩ = some (.int .i64 (ts[i]).a) ∧ w.cell? ⟨b, off + i * 3 + 1, none⟩ = some (.int .i64 (ts[i]).b) ∧ w.cell? ⟨b, off + i * 3 + 2, none⟩ = some (.int .i64 (ts[i]).c)

theorem MvsIn.below {w w' : World} {B b off : Nat} {ts : List Mv} (h : MvsIn w b off ts) (hb : Below B w w') (hlt : b < B) : MvsIn w' b off ts := fun i hi =>
  ⟨(hb.cell (p := ⟨b, _, none⟩) hlt).trans (h i hi).1, (hb.cell (p := ⟨b, _, none⟩) hlt).trans (h i hi).2.1, (hb.cell (p := ⟨b, _, none⟩) hlt).trans (h i hi).2.2⟩

theorem MvsIn.grown {w w' : World} {b off : Nat} {ts : List Mv} {r : Option Nat} (h : MvsIn w b off ts) (hg : w.grownBy w' r) (hlt : b < w.heap.size) (hne : some b ≠ r) : MvsIn w' b off ts := fun i hi =>
  ⟨(World.cell?_of_block (a := ⟨b, _, none⟩) (hg.block b hlt hne)).trans (h i hi).1, (World.cell?_of_block (a := ⟨b, _, none⟩) (hg.block b hlt hne)).trans (h i hi).2.1, (World.cell?_of_block (a := ⟨b, _, none⟩) (hg.block b hlt hne)).trans (h i hi).2.2⟩
/-- a new row of terms within bounds, which may be written -/
def NewM (lo hi : Nat) (w : World) (a : Option Addr) (ts : List Mv) : Prop := ts = [] ∨ ∃ g, a = some ⟨g, 0, none⟩ ∧ lo ≤ g ∧ g < hi ∧ Made w g (ts.length * 3) ∧ MvsIn w g 0 ts
theorem NewM.mono {lo hi lo' hi' : Nat} {w : World} {a : Option Addr} {ts : List Mv} (h : NewM lo hi w a ts) (h1 : lo' ≤ lo) (h2 : hi ≤ hi') : NewM lo' hi' w a ts := by
  rcases h with h | ⟨g, e, a1, a2, a3, a4⟩
  · exact .inl h
  · exact .inr ⟨g, e, by omega, by omega, a3, a4⟩
theorem NewM.below {lo hi B : Nat} {w w' : World} {a : Option Addr} {ts : List Mv} (h : NewM lo hi w a ts) (hb : Below B w w') (hh : hi ≤ B) : NewM lo hi w' a ts := by
  rcases h with h | ⟨g, h1, h2, h3, h4, h5⟩
  · exact .inl h
  · exact .inr ⟨g, h1, h2, h3, h4.below hb (by omega), h5.below hb (by omega)⟩
theorem NewM.grown {lo hi : Nat} {w w' : World} {a : Option Addr} {ts : List Mv} {r : Option Nat} (h : NewM lo hi w a ts) (hg : w.grownBy w' r) (hr : ∀ g, r = some g → g < lo ∨ hi ≤ g) : NewM lo hi w' a ts := by
  rcases h with h | ⟨g, h1, h2, h3, h4, h5⟩
  · exact .inl h
  · have hne : some g ≠ r := fun e => by have := hr g e.symm; omega
    exact .inr ⟨g, h1, h2, h3, h4.grown hg hne, h5.grown hg h4.1 hne⟩
def cellsM (ts : List Mv) : List Value := ts.flatMap fun t => [.int .i64 t.a, .int .i64 t.b, .int .i64 t.c]
theorem cellsM_nil : cellsM [] = [] := rfl
theorem cellsM_append (xs ys : List Mv) : cellsM (xs ++ ys) = cellsM xs ++ cellsM ys := by simp [cellsM]
theorem cellsM_cons (t : Mv) (ts : List Mv) : cellsM (t :: ts) = [.int .i64 t.a, .int .i64 t.b, .int .i64 t.c] ++ cellsM ts := rfl
theorem cellsM_one (t : Mv) : cellsM [t] = [.int .i64 t.a, .int .i64 t.b, .int .i64 t.c] := rfl
theorem cellsM_length : ∀ ts : List Mv, (cellsM ts).length = ts.length * 3
  | [] => rfl
  | t :: ts => by rw [cellsM_cons, List.length_append, cellsM_length ts]; simp; omega
theorem cellsM_get : ∀ (ts : List Mv) (i : Nat) (h : i < ts.length), (cellsM ts)[i * 3]? = some (.int .i64 (ts[i]).a) ∧ (cellsM ts)[i * 3 + 1]? = some (.int .i64 (ts[i]).b) ∧ (cellsM ts)[i * 3 + 2]? = some (.int .i64 (ts[i]).c)
  | [], i, h => by simp at h
  | t :: ts, 0, _ => by simp [cellsM_cons]
  | t :: ts, i + 1, h => by
    have ih := cellsM_get ts i (by simpa using h)
    have e0 : (i + 1) * 3 = (i * 3) + 3 := by omega
    have e1 : (i + 1) * 3 + 1 = (i * 3 + 1) + 3 := by omega
    have e2 : (i + 1) * 3 + 2 = (i * 3 + 2) + 3 := by omega
    rw [e1, e2, e0, cellsM_cons]
    have k : ∀ j, ([.int .i64 t.a, .int .i64 t.b, .int .i64 t.c] ++ cellsM ts)[j + 3]? = (cellsM ts)[j]? := fun j => by
      rw [List.getElem?_append_right (by simp)]; simp
    rw [k, k, k]
    simpa using ih
theorem cellsM_oneCell (ts : List Mv) : ∀ u ∈ cellsM ts, u.oneCell' = true := fun u hu => by
  unfold cellsM at hu
  obtain ⟨t, _, h⟩ := List.mem_flatMap.1 hu
  simp at h
  rcases h with rfl | rfl | rfl <;> rfl

theorem mvs_news {w : World} {b off : Nat} {ts : List Mv} (h : MvsIn w b off ts) : ∀ j u, (cellsM ts)[j]? = some u → w.cell? ((⟨b, off, none⟩ : Addr).add j) = some u := fun j u hu => by
  have hj : j < ts.length * 3 := by have := (List.getElem?_eq_some_iff.1 hu).1; rwa [cellsM_length] at this
  have hi : j / 3 < ts.length := by omega
  obtain ⟨a0, a1, a2⟩ := cellsM_get ts (j / 3) hi
  obtain ⟨c0, c1, c2⟩ := h (j / 3) hi
  rw [add_at]
  have hr : j = j / 3 * 3 ∨ j = j / 3 * 3 + 1 ∨ j = j / 3 * 3 + 2 := by omega
  rcases hr with e | e | e
  · rw [e, a0] at hu; rw [e, c0]; exact hu
  · rw [e, a1] at hu; rw [e, ← Nat.add_assoc, c1]; exact hu
  · rw [e, a2] at hu; rw [e, ← Nat.add_assoc, c2]; exact hu

/-- a row of moves within bounds of blocks, or none -/
def MRow (lo hi : Nat) (w : World) (a : Option Addr) (ms : List Mv) : Prop := ms = [] ∨ ∃ b off, a = some ⟨b, off, none⟩ ∧ lo ≤ b ∧ b < hi ∧ MvsIn w b off ms
theorem MRow.below {lo hi B : Nat} {w w' : World} {a : Option Addr} {ms : List Mv} (h : MRow lo hi w a ms) (hb : Below B w w') (hh : hi ≤ B) : MRow lo hi w' a ms := by
  rcases h with h | ⟨b, off, e, a1, a2, a3⟩
  · exact .inl h
  · exact .inr ⟨b, off, e, a1, a2, a3.below hb (by omega)⟩
theorem MRow.outside {lo hi l h' : Nat} {w w' : World} {a : Option Addr} {ms : List Mv} (h : MRow lo hi w a ms) (hg : Outside l h' w w') (hs : hi ≤ w.heap.size) (ho : hi ≤ l ∨ h' ≤ lo) : MRow lo hi w' a ms := by
  rcases h with h | ⟨b, off, e, a1, a2, a3⟩
  · exact .inl h
  · exact .inr ⟨b, off, e, a1, a2, fun i hi => ⟨(hg.cell (by omega) (by omega)).trans (a3 i hi).1, (hg.cell (by omega) (by omega)).trans (a3 i hi).2.1, (hg.cell (by omega) (by omega)).trans (a3 i hi).2.2⟩⟩
theorem Outside.setCell {lo hi : Nat} {a w : World} (h : Outside lo hi a w) {p : Addr} (h1 : lo ≤ p.block) (h2 : p.block < hi) (u : Value) : Outside lo hi a (w.setCell p u) :=
  h.trans ⟨rfl, rfl, rfl, by simp [World.setCell], fun k _ hk => Below.heap_setCell w p u k (by omega)⟩
theorem Outside.alloc {lo hi : Nat} {a w : World} (h : Outside lo hi a w) (o : Obj) : Outside lo hi a (w.alloc o) := h.trans (.of_below (below1 w o))
theorem Outside.step {lo hi : Nat} {a w w' : World} (h : Outside lo hi a w) (hb : Below w.heap.size w w') : Outside lo hi a w' := h.trans (.of_below hb)
theorem Outside.drew {lo hi : Nat} {a w : World} (h : Outside lo hi a w) : Outside lo hi a w.drew := ⟨h.os, h.tape, h.output, h.size, h.block⟩
theorem MRow.mono {lo hi lo' hi' : Nat} {w : World} {a : Option Addr} {ms : List Mv} (h : MRow lo hi w a ms) (h1 : lo' ≤ lo) (h2 : hi ≤ hi') : MRow lo' hi' w a ms := by
  rcases h with h | ⟨b, off, e, a1, a2, a3⟩
  · exact .inl h
  · exact .inr ⟨b, off, e, by omega, by omega, a3⟩
theorem NewM.row {lo hi : Nat} {w : World} {a : Option Addr} {ms : List Mv} (h : NewM lo hi w a ms) : MRow lo hi w a ms := by
  rcases h with h | ⟨g, h1, h2, h3, _, h5⟩
  · exact .inl h
  · exact .inr ⟨g, 0, h1, h2, h3, h5⟩
theorem MRow.get {lo hi B : Nat} {w w' : World} {a : Option Addr} {ms : List Mv} (h : MRow lo hi w a ms) (hb : Below B w w') (hh : hi ≤ B) {k : Nat} (hk : k < ms.length) :
    ∃ b off, a = some ⟨b, off, none⟩ ∧ w'.cell? ⟨b, off + k * 3, none⟩ = some (.int .i64 (ms[k]).a) ∧ w'.cell? ⟨b, off + k * 3 + 1, none⟩ = some (.int .i64 (ms[k]).b) ∧ w'.cell? ⟨b, off + k * 3 + 2, none⟩ = some (.int .i64 (ms[k]).c) := by
  rcases (h.below hb hh) with h | ⟨b, off, e, _, _, a3⟩
  · rw [h] at hk; simp at hk
  · exact ⟨b, off, e, a3 k hk⟩
theorem MRow.src {lo hi : Nat} {w : World} {a : Option Addr} {ms : List Mv} (h : MRow lo hi w a ms) : ms.length = 0 ∨ ∃ b off, a = some ⟨b, off, none⟩ ∧ MvsIn w b off ms := by
  rcases h with h | ⟨b, off, e, _, _, q⟩
  · exact .inl (by simp [h])
  · exact .inr ⟨b, off, e, q⟩
end Go.Proofs.Ytngpnbdndkddlaa
