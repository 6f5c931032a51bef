/-
  append onto a row of numbers of the call's own; slices.Concat at two rows, slices.Clone.
  slices.Clone of a row of numbers, slices.Concat at two rows of numbers.
  Moves (arrays of three numbers): sums, multiples.
  Rows of moves in memory, owned by a call: what append leaves.
  Where a path stands behind some of its steps.
  Contracts of EndOf, of the program and of its model: both return the same numbers and code.
-/
import Derived.Test.YtolbgdgoambliaaPaths
import Derived.Test.YtolbgdgoambliaaPartOf
import Derived.Test.YtolbgdgoambliaaPathC
import Derived.Deep.RegionLaw
import Derived.WalkSpells
import Derived.OwnWalk
import Derived.Laws.Pointers
import Derived.Lib.AppendZerosOnto
import Derived.Lib.Walk
import Derived.Lib.LazyBuf
import Derived.Laws.Rows
import Derived.LoopN
namespace Go.Proofs.Ytolbgdgoambliaa
open Go.RowKit

def cellsI (ss : List Int) : List Value := ss.map (Value.int .i64)
/-- the value owns the words, in a row from the block `base` on -/
def OwnI (w : World) (base : Nat) (v : Value) (ss : List Int) : Prop := w.ownsRow base 2 1 v ss.length (cellsI ss)
theorem OwnI.nil (w : World) (base : Nat) : OwnI w base (.slice none 0 0) [] := World.ownsRow_nil w base _ 1
theorem OwnI.newI {w : World} {base : Nat} {v : Value} {ss : List Int} (h : OwnI w base v ss) : ∃ a cap, v = .slice a ss.length cap ∧ ss.length ≤ cap ∧ NewI base w.heap.size w a ss := by
  rcases h.2 with ⟨rfl, h0⟩ | ⟨g, cap, cur, rfl, hbg, hg, hnc, hcm, hcs, htake⟩
  · have e : ss = [] := List.eq_nil_of_length_eq_zero h0
    subst e
    exact ⟨none, 0, rfl, Nat.le_refl _, .inl rfl⟩
  · have hlt : g < w.heap.size := by
      rcases Nat.lt_or_ge g w.heap.size with hlt | hge
      · exact hlt
      · rw [Array.getElem?_eq_none hge] at hg; cases hg
    have hcell : ∀ j, w.cell? ⟨g, j, none⟩ = cur[j]? := fun j => cell_of_row w g j cur _ (0, 0) hg
    have hsz : ss.length ≤ cur.size := by rw [hcs]; omega
    have hat : ∀ j, j < ss.length → cur[j]? = (cellsI ss)[j]? := fun j hj => by
      rw [← htake, List.getElem?_take, if_pos (by omega)]; simp
    refine ⟨some ⟨g, 0, none⟩, cap, rfl, hnc, .inr ⟨g, rfl, hbg, hlt, ⟨hlt, fun j hj => ⟨?_, ?_⟩⟩, fun i hi => ?_⟩⟩
    · exact ⟨cur[j]'(by omega), by rw [hcell]; exact Array.getElem?_eq_getElem (by omega)⟩
    · simp [World.frozen?, hg]
    · rw [hcell, Nat.zero_add, hat i hi]
      simp [cellsI]
theorem OwnI.below {B base : Nat} {w w' : World} {v : Value} {ss : List Int} (h : OwnI w base v ss) (hb : Below B w w') (hv : ∀ g, v.ownBlock = some g → g < B) : OwnI w' base v ss := by
  rcases h with ⟨hl, h⟩
  refine ⟨hl, ?_⟩
  rcases h with h | ⟨g, cap, cur, rfl, hbg, hg, rest⟩
  · exact .inl h
  · exact .inr ⟨g, cap, cur, rfl, hbg, by rw [hb.block g (hv g rfl)]; exact hg, rest⟩
theorem OwnI.lt {base : Nat} {w : World} {v : Value} {ss : List Int} (h : OwnI w base v ss) : ∀ g, v.ownBlock = some g → base ≤ g ∧ g < w.heap.size := fun g hv => by
  rcases h.2 with ⟨rfl, h0⟩ | ⟨g', cap, cur, rfl, hbg, hg, hnc, hcm, hcs, htake⟩
  · simp [Value.ownBlock] at hv
  · have e : g' = g := by simpa [Value.ownBlock] using hv
    subst e
    refine ⟨hbg, ?_⟩
    rcases Nat.lt_or_ge g' w.heap.size with hlt | hge
    · exact hlt
    · rw [Array.getElem?_eq_none hge] at hg; cases hg
theorem OwnI.far {base : Nat} {w : World} {v : Value} {ss : List Int} (h : OwnI w base v ss) {p : Addr} (hp : v.ownBlock ≠ some p.block) (u : Value) : OwnI (w.setCell p u) base v ss := by
  rcases h with ⟨hl, h⟩
  refine ⟨hl, ?_⟩
  rcases h with h | ⟨g, cap, cur, rfl, hbg, hg, rest⟩
  · exact .inl h
  · refine .inr ⟨g, cap, cur, rfl, hbg, ?_, rest⟩
    rw [Below.heap_setCell w p u g (fun e => hp (by rw [← e]; rfl))]; exact hg
theorem OwnI.alloc {base : Nat} {w : World} {v : Value} {ss : List Int} (h : OwnI w base v ss) (o : Obj) : OwnI (w.alloc o) base v ss :=
  h.below (below1 w o) (fun g hg => (h.lt g hg).2)
theorem OwnI.emptyRow {w : World} {base g : Nat} (h : w.heap[g]? = some (.cells #[] 2 (0, 0))) (hb : base ≤ g) : OwnI w base (.slice (some ⟨g, 0, none⟩) 0 0) [] :=
  ⟨rfl, .inr ⟨g, 0, #[], rfl, hb, h, Nat.le_refl _, Nat.zero_le _, rfl, rfl⟩⟩
theorem OwnI.mono {w : World} {base base' : Nat} {v : Value} {ss : List Int} (h : OwnI w base v ss) (hb : base' ≤ base) : OwnI w base' v ss := by
  rcases h with ⟨hl, h | ⟨g, cap, cur, rfl, hbg, rest⟩⟩
  · exact ⟨hl, .inl h⟩
  · exact ⟨hl, .inr ⟨g, cap, cur, rfl, Nat.le_trans hb hbg, rest⟩⟩
theorem cellsI_oneCell (ss : List Int) : ∀ u ∈ cellsI ss, u.oneCell' = true := fun u hu => by
  unfold cellsI at hu
  obtain ⟨t, _, rfl⟩ := List.mem_map.1 hu
  rfl
theorem cellsI_append (xs ys : List Int) : cellsI (xs ++ ys) = cellsI xs ++ cellsI ys := by simp [cellsI]
theorem ints_news {w : World} {b off : Nat} {ss : List Int} (h : IntsIn w b off ss) : ∀ j u, (cellsI ss)[j]? = some u → w.cell? ((⟨b, off, none⟩ : Addr).add j) = some u := fun j u hu => by
  have hj : j < ss.length := by have := (List.getElem?_eq_some_iff.1 hu).1; simpa [cellsI] using this
  rw [add_at, h j hj]
  simp only [cellsI, List.getElem?_map, List.getElem?_eq_getElem hj, Option.map_some, Option.some.injEq] at hu
  rw [hu]

set_option maxRecDepth 100000 in
theorem run_append_ints (w : World) (ty : TypeId) (base : Nat) (v : Value) (n : Nat) (xs ys : List Int) (hn : n = xs.length) (hown : OwnI w base v xs) (A : Option Addr) (m c : Nat) (hm : m = ys.length)
    (hsrc : m = 0 ∨ ∃ b off, A = some ⟨b, off, none⟩ ∧ IntsIn w b off ys) (hbig : n + m ≤ 4194304) (hbase : base ≤ w.heap.size) :
    ∃ a' c' w', (Builtin.append_ #[72, 72] ty #[v, .slice A m c]).run Try.prog w = .ok (.slice a' (n + m) c') w' ∧ OwnI w' base (.slice a' (n + m) c') (xs ++ ys) ∧ w.grownBy w' v.ownBlock ∧
      ((Value.slice a' (n + m) c').ownBlock = v.ownBlock ∨ (Value.slice a' (n + m) c').ownBlock = some w.heap.size) := by
  obtain ⟨i0, hi0, hi1, hi2, hi3⟩ := info_parts info_int64
  subst hn hm
  have hform : ∀ (W : World) (u : Value) (zs : List Int), OwnI W base u zs → ∃ a' c', u = .slice a' zs.length c' := fun W u zs h => by
    obtain ⟨a', c', h1, _, _⟩ := h.newI
    exact ⟨a', c', h1⟩
  rcases A with _ | ad
  · have h0 : ys = [] := by
      rcases hsrc with h | ⟨b, off, h, _⟩
      · exact List.eq_nil_of_length_eq_zero h
      · cases h
    subst h0
    obtain ⟨a', c', rfl⟩ := hform _ _ _ hown
    refine ⟨a', c', w, ?_, by simpa using hown, World.grownBy.refl w _, .inl rfl⟩
    rcases hown.2 with ⟨h1, h2⟩ | ⟨g, cap, cur, h1, _, _, hnc, _⟩
    · injection h1 with e1 e2 e3
      subst e1 e3
      simp [Builtin.append_, run_underlying Try.underlying72, sizeOf, typeInfo, hi0, Builtin.lenOf, Builtin.firstCells, h2]
    · injection h1 with e1 e2 e3
      subst e1 e3
      simp [Builtin.append_, run_underlying Try.underlying72, sizeOf, typeInfo, hi0, Builtin.lenOf, Builtin.firstCells, hnc, storeCells]
  · have hnews : ∀ j u, (cellsI ys)[j]? = some u → w.cell? (ad.add j) = some u := fun j u hu => by
      rcases hsrc with h | ⟨b, off, h, ht⟩
      · have e : ys = [] := List.eq_nil_of_length_eq_zero h
        subst e
        simp [cellsI] at hu
      · cases h
        exact ints_news ht j u hu
    obtain ⟨v', w', hr, h2, h3, _, h5⟩ := run_append_own_at (P := Try.prog) w base 72 ty 2 i0 _ 1 8 Try.underlying72 hi0 hi1 hi2 hi3 rfl (by omega) v xs.length (cellsI xs) hown ad ys.length c (cellsI ys) (by simp [cellsI]) hnews (cellsI_oneCell ys) (by unfold maxLen; omega) (by omega) hbase
    have hO : OwnI w' base v' (xs ++ ys) := by
      unfold OwnI
      rw [List.length_append, cellsI_append]
      exact h2
    obtain ⟨a', c', rfl⟩ := hform _ _ _ hO
    rw [List.length_append] at hr hO h5
    exact ⟨a', c', w', hr, hO, h3, h5⟩

theorem wpList_append_ints {ops : Array Oper} {rest : List Oper} {o : Oper} {a : Act} {w : World} {Q : Exit → Act → World → Prop} (hgd : o.guard = none) (s x : Operand)
    (ho : o.op = .call { callee := .builtin .append, args := #[s, x], argTypes := #[72, 72] })
    (base : Nat) (v : Value) (n : Nat) (xs ys : List Int) (hs : a.eval s = v) (hn : n = xs.length) (hown : OwnI w base v xs) (A : Option Addr) (m c : Nat) (hx : a.eval x = .slice A m c) (hm : m = ys.length)
    (hsrc : m = 0 ∨ ∃ b off, A = some ⟨b, off, none⟩ ∧ IntsIn w b off ys) (hbig : n + m ≤ 4194304) (hbase : base ≤ w.heap.size)
    (h : ∀ a' c' w', OwnI w' base (.slice a' (n + m) c') (xs ++ ys) → w.grownBy w' v.ownBlock → ((Value.slice a' (n + m) c').ownBlock = v.ownBlock ∨ (Value.slice a' (n + m) c').ownBlock = some w.heap.size) → wpList Try.prog ops Q rest (a.put o.dst (.slice a' (n + m) c')) w') :
    wpList Try.prog ops Q (o :: rest) a w := by
  refine wpList_plain hgd fun K hK => ?_
  obtain ⟨a', c', w', hr, h2, h3, h4⟩ := run_append_ints w o.type base v n xs ys hn hown A m c hm hsrc hbig hbase
  unfold Oper.wp execOp
  simp only [ho, resolve, invoke, builtin, Sem.run_bind, Sem.run_pure, Result.andThen_ok, List.map_toArray, List.map_cons, List.map_nil, hs, hx, hr]
  exact hK _ _ (h a' c' w' h2 h3 h4)

theorem ints_one (w : World) (s : Int) : IntsIn (w.alloc (.cells #[.int .i64 s] 2)) w.heap.size 0 [s] := fun i hi => by
  have h0 : i = 0 := by simpa using hi
  subst h0
  simp [go_sem]
theorem OwnI.one (w : World) (s : Int) : OwnI (w.alloc (.cells #[.int .i64 s] 2)) w.heap.size (.slice (some ⟨w.heap.size, 0, none⟩) 1 1) [s] :=
  ⟨rfl, .inr ⟨w.heap.size, 1, #[.int .i64 s], rfl, Nat.le_refl _, heap_alloc_new w _, Nat.le_refl _, by unfold maxLen; omega, rfl, rfl⟩⟩
theorem own_grownI {B : Nat} {w w' : World} {v : Value} {ss : List Int} (hO : OwnI w B v ss) (hg : w.grownBy w' v.ownBlock) (hB : B ≤ w.heap.size) : Below B w w' := below_of_grown hg (fun g h => (hO.lt g h).1) hB
end Go.Proofs.Ytolbgdgoambliaa

namespace Go.Proofs.Ytolbgdgoambliaa
open Go.RowKit

/-- what a function that returns new numbers comes to -/
def IntsPost (zs : List Int) (W : World) (e : Ending) (w' : World) : Prop :=
  ∃ (a : Option Addr) (cap : Nat), e = .returned (.slice a zs.length cap) ∧ Below W.heap.size W w' ∧ NewI W.heap.size w'.heap.size w' a zs
theorem OwnI.at_ {w : World} {base : Nat} {a : Option Addr} {l c : Nat} {ss : List Int} (h : OwnI w base (.slice a l c) ss) : l = ss.length ∧ NewI base w.heap.size w a ss := by
  obtain ⟨a', c', he, hle, hN⟩ := h.newI
  injection he with e1 e2 e3
  subst e1 e3
  exact ⟨e2, hN⟩
theorem IRow.src {lo hi : Nat} {w : World} {a : Option Addr} {zs : List Int} (h : IRow lo hi w a zs) : zs.length = 0 ∨ ∃ b off, a = some ⟨b, off, none⟩ ∧ IntsIn w b off zs := by
  rcases h with h | ⟨b, off, e, _, _, q⟩
  · exact .inl (by simp [h])
  · exact .inr ⟨b, off, e, q⟩

def GrowIPost (W : World) (e : Ending) (w' : World) : Prop :=
  ∃ (a : Option Addr) (c : Nat), e = .returned (.slice a 0 c) ∧ OwnI w' W.heap.size (.slice a 0 c) [] ∧ Below W.heap.size W w'
/-- what a function that returns numbers and a code comes to -/
def NumsPost (zs : List Int) (c : Int) (W : World) (e : Ending) (w' : World) : Prop :=
  ∃ (a : Option Addr) (cap : Nat), e = .returned (.tuple #[.slice a zs.length cap, .int .i64 c]) ∧ Below W.heap.size W w' ∧ NewI W.heap.size w'.heap.size w' a zs
theorem IntsIn.upd {w : World} {g : Nat} {zs : List Int} {j : Nat} (h : IntsIn w g 0 zs) (hm : Made w g zs.length) (hj : j < zs.length) (z : Int) : IntsIn (w.setCell ⟨g, j, none⟩ (.int .i64 z)) g 0 (zs.set j z) := by
  intro i hi
  rw [List.length_set] at hi
  rw [List.getElem_set]
  simp only [Nat.zero_add]
  by_cases e : j = i
  · subst e
    rw [if_pos rfl]
    obtain ⟨⟨v0, m0⟩, -⟩ := hm.2 j hj
    exact World.cell?_setCell_same _ _ _ m0
  · rw [if_neg e, World.cell?_setCell_other _ _ _ _ (fun e2 => by injection e2 with _ e3; omega)]
    have := h i hi
    rwa [Nat.zero_add] at this
end Go.Proofs.Ytolbgdgoambliaa

namespace Go.Proofs.Ytolbgdgoambliaa
open Go.RowKit

/-- the three numbers of a move -/
structure Mv where
  a : Int
  b : Int
  c : Int
def Mv.small (m : Int) (v : Mv) : Prop := (-m ≤ v.a ∧ v.a ≤ m) ∧ (-m ≤ v.b ∧ v.b ≤ m) ∧ (-m ≤ v.c ∧ v.c ≤ m)
def addM (v w : Mv) : Mv := ⟨v.a + w.a, v.b + w.b, v.c + w.c⟩
def mulM (v : Mv) (k : Int) : Mv := ⟨v.a * k, v.b * k, v.c * k⟩

/-- the numbers of a step, and 0 for those that it lacks -/
def mvOf (z : List Int) : Mv := ⟨z.getD 0 0, z.getD 1 0, z.getD 2 0⟩

theorem make_three : ∀ w : World, (Instr.makeSlice 72 (.int .i64 3) (.int .i64 3)).run Try.prog w = .ok (.slice (some ⟨w.heap.size, 0, none⟩) 3 3) (w.alloc (.cells #[.int .i64 0, .int .i64 0, .int .i64 0] 2)) := fun _ => by kernel_rfl
theorem get_zeros (z : List Int) (i : Nat) (hi : i < 3) (h : i < (z ++ [0, 0, 0]).length) : (z ++ [0, 0, 0])[i] = z.getD i 0 := by
  rw [List.getD_eq_getElem?_getD]
  by_cases hlt : i < z.length
  · rw [List.getElem_append_left hlt, List.getElem?_eq_getElem hlt]; rfl
  · rw [List.getElem_append_right (by omega), List.getElem?_eq_none (by omega)]
    have h3 : i - z.length = 0 ∨ i - z.length = 1 ∨ i - z.length = 2 := by omega
    have key : ∀ j (hj : j < [(0 : Int), 0, 0].length), [(0 : Int), 0, 0][j] = 0 := fun j hj => by
      have : j = 0 ∨ j = 1 ∨ j = 2 := by simp at hj; omega
      rcases this with rfl | rfl | rfl <;> rfl
    exact key _ _

end Go.Proofs.Ytolbgdgoambliaa

namespace Go.Proofs.Ytolbgdgoambliaa
open Go.RowKit

/-- the terms stand in a row of cells of block `b` from `off` on -/
def MvsIn (w : World) (b off : Nat) (ts : List Mv) : Prop :=
  ∀ i (h : i < ts.length), w.cell? ⟨b, off + i * 3, none⟩ = some (.int .i64 (ts[i]).a) ∧ w.cell? ⟨b, off + i * 3 + 1, none⟩ = some (.int .i64 (ts[i]).b) ∧ w.cell? ⟨b, off + i * 3 + 2, none⟩ = some (.int .i64 (ts[i]).c)

theorem MvsIn.below {w w' : World} {B b off : Nat} {ts : List Mv} (h : MvsIn w b off ts) (hb : Below B w w') (hlt : b < B) : MvsIn w' b off ts := fun i hi =>
  ⟨(hb.cell (p := ⟨b, _, none⟩) hlt).trans (h i hi).1, (hb.cell (p := ⟨b, _, none⟩) hlt).trans (h i hi).2.1, (hb.cell (p := ⟨b, _, none⟩) hlt).trans (h i hi).2.2⟩

theorem MvsIn.grown {w w' : World} {b off : Nat} {ts : List Mv} {r : Option Nat} (h : MvsIn w b off ts) (hg : w.grownBy w' r) (hlt : b < w.heap.size) (hne : some b ≠ r) : MvsIn w' b off ts := fun i hi =>
  ⟨(World.cell?_of_block (a := ⟨b, _, none⟩) (hg.block b hlt hne)).trans (h i hi).1, (World.cell?_of_block (a := ⟨b, _, none⟩) (hg.block b hlt hne)).trans (h i hi).2.1, (World.cell?_of_block (a := ⟨b, _, none⟩) (hg.block b hlt hne)).trans (h i hi).2.2⟩
/-- a new row of terms within bounds, which may be written -/
def NewM (lo hi : Nat) (w : World) (a : Option Addr) (ts : List Mv) : Prop := ts = [] ∨ ∃ g, a = some ⟨g, 0, none⟩ ∧ lo ≤ g ∧ g < hi ∧ Made w g (ts.length * 3) ∧ MvsIn w g 0 ts
theorem NewM.mono {lo hi lo' hi' : Nat} {w : World} {a : Option Addr} {ts : List Mv} (h : NewM lo hi w a ts) (h1 : lo' ≤ lo) (h2 : hi ≤ hi') : NewM lo' hi' w a ts := by
  rcases h with h | ⟨g, e, a1, a2, a3, a4⟩
  · exact .inl h
  · exact .inr ⟨g, e, by omega, by omega, a3, a4⟩
theorem NewM.below {lo hi B : Nat} {w w' : World} {a : Option Addr} {ts : List Mv} (h : NewM lo hi w a ts) (hb : Below B w w') (hh : hi ≤ B) : NewM lo hi w' a ts := by
  rcases h with h | ⟨g, h1, h2, h3, h4, h5⟩
  · exact .inl h
  · exact .inr ⟨g, h1, h2, h3, h4.below hb (by omega), h5.below hb (by omega)⟩
theorem NewM.grown {lo hi : Nat} {w w' : World} {a : Option Addr} {ts : List Mv} {r : Option Nat} (h : NewM lo hi w a ts) (hg : w.grownBy w' r) (hr : ∀ g, r = some g → g < lo ∨ hi ≤ g) : NewM lo hi w' a ts := by
  rcases h with h | ⟨g, h1, h2, h3, h4, h5⟩
  · exact .inl h
  · have hne : some g ≠ r := fun e => by have := hr g e.symm; omega
    exact .inr ⟨g, h1, h2, h3, h4.grown hg hne, h5.grown hg h4.1 hne⟩
def cellsM (ts : List Mv) : List Value := ts.flatMap fun t => [.int .i64 t.a, .int .i64 t.b, .int .i64 t.c]
theorem cellsM_nil : cellsM [] = [] := rfl
theorem cellsM_append (xs ys : List Mv) : cellsM (xs ++ ys) = cellsM xs ++ cellsM ys := by simp [cellsM]
theorem cellsM_cons (t : Mv) (ts : List Mv) : cellsM (t :: ts) = [.int .i64 t.a, .int .i64 t.b, .int .i64 t.c] ++ cellsM ts := rfl
theorem cellsM_one (t : Mv) : cellsM [t] = [.int .i64 t.a, .int .i64 t.b, .int .i64 t.c] := rfl
theorem cellsM_length : ∀ ts : List Mv, (cellsM ts).length = ts.length * 3
  | [] => rfl
  | t :: ts => by rw [cellsM_cons, List.length_append, cellsM_length ts]; simp; omega
theorem cellsM_get : ∀ (ts : List Mv) (i : Nat) (h : i < ts.length), (cellsM ts)[i * 3]? = some (.int .i64 (ts[i]).a) ∧ (cellsM ts)[i * 3 + 1]? = some (.int .i64 (ts[i]).b) ∧ (cellsM ts)[i * 3 + 2]? = some (.int .i64 (ts[i]).c)
  | [], i, h => by simp at h
  | t :: ts, 0, _ => by simp [cellsM_cons]
  | t :: ts, i + 1, h => by
    have ih := cellsM_get ts i (by simpa using h)
    have e0 : (i + 1) * 3 = (i * 3) + 3 := by omega
    have e1 : (i + 1) * 3 + 1 = (i * 3 + 1) + 3 := by omega
    have e2 : (i + 1) * 3 + 2 = (i * 3 + 2) + 3 := by omega
    rw [e1, e2, e0, cellsM_cons]
    have k : ∀ j, ([.int .i64 t.a, .int .i64 t.b, .int .i64 t.c] ++ cellsM ts)[j + 3]? = (cellsM ts)[j]? := fun j => by
      rw [List.getElem?_append_right (by simp)]; simp
    rw [k, k, k]
    simpa using ih
theorem cellsM_oneCell (ts : List Mv) : ∀ u ∈ cellsM ts, u.oneCell' = true := fun u hu => by
  unfold cellsM at hu
  obtain ⟨t, _, h⟩ := List.mem_flatMap.1 hu
  simp at h
  rcases h with rfl | rfl | rfl <;> rfl

theorem mvs_news {w : World} {b off : Nat} {ts : List Mv} (h : MvsIn w b off ts) : ∀ j u, (cellsM ts)[j]? = some u → w.cell? ((⟨b, off, none⟩ : Addr).add j) = some u := fun j u hu => by
  have hj : j < ts.length * 3 := by have := (List.getElem?_eq_some_iff.1 hu).1; rwa [cellsM_length] at this
  have hi : j / 3 < ts.length := by omega
  obtain ⟨a0, a1, a2⟩ := cellsM_get ts (j / 3) hi
  obtain ⟨c0, c1, c2⟩ := h (j / 3) hi
  rw [add_at]
  have hr : j = j / 3 * 3 ∨ j = j / 3 * 3 + 1 ∨ j = j / 3 * 3 + 2 := by omega
  rcases hr with e | e | e
  · rw [e, a0] at hu; rw [e, c0]; exact hu
  · rw [e, a1] at hu; rw [e, ← Nat.add_assoc, c1]; exact hu
  · rw [e, a2] at hu; rw [e, ← Nat.add_assoc, c2]; exact hu

/-- a row of moves within bounds of blocks, or none -/
def MRow (lo hi : Nat) (w : World) (a : Option Addr) (ms : List Mv) : Prop := ms = [] ∨ ∃ b off, a = some ⟨b, off, none⟩ ∧ lo ≤ b ∧ b < hi ∧ MvsIn w b off ms
theorem MRow.below {lo hi B : Nat} {w w' : World} {a : Option Addr} {ms : List Mv} (h : MRow lo hi w a ms) (hb : Below B w w') (hh : hi ≤ B) : MRow lo hi w' a ms := by
  rcases h with h | ⟨b, off, e, a1, a2, a3⟩
  · exact .inl h
  · exact .inr ⟨b, off, e, a1, a2, a3.below hb (by omega)⟩
theorem MRow.outside {lo hi l h' : Nat} {w w' : World} {a : Option Addr} {ms : List Mv} (h : MRow lo hi w a ms) (hg : Outside l h' w w') (hs : hi ≤ w.heap.size) (ho : hi ≤ l ∨ h' ≤ lo) : MRow lo hi w' a ms := by
  rcases h with h | ⟨b, off, e, a1, a2, a3⟩
  · exact .inl h
  · exact .inr ⟨b, off, e, a1, a2, fun i hi => ⟨(hg.cell (by omega) (by omega)).trans (a3 i hi).1, (hg.cell (by omega) (by omega)).trans (a3 i hi).2.1, (hg.cell (by omega) (by omega)).trans (a3 i hi).2.2⟩⟩
theorem Outside.setCell {lo hi : Nat} {a w : World} (h : Outside lo hi a w) {p : Addr} (h1 : lo ≤ p.block) (h2 : p.block < hi) (u : Value) : Outside lo hi a (w.setCell p u) :=
  h.trans ⟨rfl, rfl, rfl, by simp [World.setCell], fun k _ hk => Below.heap_setCell w p u k (by omega)⟩
theorem Outside.alloc {lo hi : Nat} {a w : World} (h : Outside lo hi a w) (o : Obj) : Outside lo hi a (w.alloc o) := h.trans (.of_below (below1 w o))
theorem Outside.step {lo hi : Nat} {a w w' : World} (h : Outside lo hi a w) (hb : Below w.heap.size w w') : Outside lo hi a w' := h.trans (.of_below hb)
theorem Outside.drew {lo hi : Nat} {a w : World} (h : Outside lo hi a w) : Outside lo hi a w.drew := ⟨h.os, h.tape, h.output, h.size, h.block⟩
theorem MRow.mono {lo hi lo' hi' : Nat} {w : World} {a : Option Addr} {ms : List Mv} (h : MRow lo hi w a ms) (h1 : lo' ≤ lo) (h2 : hi ≤ hi') : MRow lo' hi' w a ms := by
  rcases h with h | ⟨b, off, e, a1, a2, a3⟩
  · exact .inl h
  · exact .inr ⟨b, off, e, by omega, by omega, a3⟩
theorem NewM.row {lo hi : Nat} {w : World} {a : Option Addr} {ms : List Mv} (h : NewM lo hi w a ms) : MRow lo hi w a ms := by
  rcases h with h | ⟨g, h1, h2, h3, _, h5⟩
  · exact .inl h
  · exact .inr ⟨g, 0, h1, h2, h3, h5⟩
theorem MRow.get {lo hi B : Nat} {w w' : World} {a : Option Addr} {ms : List Mv} (h : MRow lo hi w a ms) (hb : Below B w w') (hh : hi ≤ B) {k : Nat} (hk : k < ms.length) :
    ∃ b off, a = some ⟨b, off, none⟩ ∧ w'.cell? ⟨b, off + k * 3, none⟩ = some (.int .i64 (ms[k]).a) ∧ w'.cell? ⟨b, off + k * 3 + 1, none⟩ = some (.int .i64 (ms[k]).b) ∧ w'.cell? ⟨b, off + k * 3 + 2, none⟩ = some (.int .i64 (ms[k]).c) := by
  rcases (h.below hb hh) with h | ⟨b, off, e, _, _, a3⟩
  · rw [h] at hk; simp at hk
  · exact ⟨b, off, e, a3 k hk⟩
theorem MRow.src {lo hi : Nat} {w : World} {a : Option Addr} {ms : List Mv} (h : MRow lo hi w a ms) : ms.length = 0 ∨ ∃ b off, a = some ⟨b, off, none⟩ ∧ MvsIn w b off ms := by
  rcases h with h | ⟨b, off, e, _, _, q⟩
  · exact .inl (by simp [h])
  · exact .inr ⟨b, off, e, q⟩
end Go.Proofs.Ytolbgdgoambliaa

namespace Go.Proofs.Ytolbgdgoambliaa

/-- the sum of the first steps, in a letter -/
def posK (ps : List (List Int)) : Nat → Nat → Int
  | 0, _ => 0
  | k + 1, i => posK ps k i + (ps.getD k []).getD i 0
def SmallP (L : Nat) (ps : List (List Int)) : Prop := ps.length ≤ 12 ∧ 1 ≤ L ∧ L ≤ 3 ∧ ∀ i (hi : i < ps.length), (ps[i]).length = L ∧ ∀ j (hj : j < (ps[i]).length), -100 ≤ ps[i][j] ∧ ps[i][j] ≤ 100
theorem small_of {L : Int} {ps : List (List Int)} (h : pathB L ps = true) : ∃ D : Nat, L = D ∧ SmallP D ps := by
  obtain ⟨h1, h2, h3⟩ := pathB_true h
  have hL := inB_true h1
  refine ⟨L.toNat, by omega, h2, by omega, by omega, fun i hi => ?_⟩
  obtain ⟨a, b⟩ := stepB_true (h3 i hi)
  exact ⟨by omega, b⟩
theorem SmallP.get {L : Nat} {ps : List (List Int)} (h : SmallP L ps) (k i : Nat) : -100 ≤ (ps.getD k []).getD i 0 ∧ (ps.getD k []).getD i 0 ≤ 100 := by
  by_cases hk : k < ps.length
  · rw [show ps.getD k [] = ps[k] from by rw [List.getD_eq_getElem?_getD, List.getElem?_eq_getElem hk]; rfl]
    by_cases hi : i < (ps[k]).length
    · rw [List.getD_eq_getElem?_getD, List.getElem?_eq_getElem hi]
      exact (h.2.2.2 k hk).2 i hi
    · rw [List.getD_eq_getElem?_getD, List.getElem?_eq_none (by omega)]; simp
  · have e : ps.getD k [] = [] := by rw [List.getD_eq_getElem?_getD, List.getElem?_eq_none (by omega)]; rfl
    rw [e]; simp
theorem SmallP.len {L : Nat} {ps : List (List Int)} (h : SmallP L ps) {k : Nat} (hk : k < ps.length) : (ps[k]).length = L := (h.2.2.2 k hk).1
theorem posK_bd {L : Nat} {ps : List (List Int)} (h : SmallP L ps) : ∀ k i : Nat, -(100 * (k : Int)) ≤ posK ps k i ∧ posK ps k i ≤ 100 * k
  | 0, _ => by simp [posK]
  | k + 1, i => by
    have ih := posK_bd h k i
    have g := h.get k i
    simp only [posK]
    omega
theorem posK_bd12 {L : Nat} {ps : List (List Int)} (h : SmallP L ps) {k : Nat} (hk : k ≤ 12) (i : Nat) : -1200 ≤ posK ps k i ∧ posK ps k i ≤ 1200 := by
  have := posK_bd h k i
  omega
theorem posK_succ (ps : List (List Int)) (k i : Nat) : posK ps (k + 1) i = posK ps k i + (ps.getD k []).getD i 0 := rfl
theorem getD_of {α : Type} {l : List α} {k : Nat} {d : α} (h : k < l.length) : l.getD k d = l[k] := by rw [List.getD_eq_getElem?_getD, List.getElem?_eq_getElem h]; rfl
/-- the end of a path of `L` letters, and the row of sums while it is made -/
def endL (ps : List (List Int)) (L : Nat) : List Int := (List.range L).map fun i => posK ps ps.length i
def rowKJ (ps : List (List Int)) (L k j : Nat) : List Int := (List.range L).map fun i => if i < j then posK ps (k + 1) i else posK ps k i
theorem rowKJ_length (ps : List (List Int)) (L k j : Nat) : (rowKJ ps L k j).length = L := by simp [rowKJ]
theorem rowKJ_get (ps : List (List Int)) (L k j i : Nat) (h : i < (rowKJ ps L k j).length) : (rowKJ ps L k j)[i] = if i < j then posK ps (k + 1) i else posK ps k i := by simp [rowKJ]
theorem rowKJ_zero (ps : List (List Int)) (L : Nat) : rowKJ ps L 0 0 = List.replicate L 0 := by
  apply List.ext_getElem
  · simp [rowKJ]
  · intro i h1 h2
    simp [rowKJ, posK]
theorem rowKJ_next (ps : List (List Int)) (L k : Nat) : rowKJ ps L k L = rowKJ ps L (k + 1) 0 := by
  apply List.ext_getElem
  · simp [rowKJ]
  · intro i h1 h2
    have : i < L := by simpa [rowKJ] using h1
    rw [rowKJ_get, rowKJ_get, if_pos this, if_neg (by omega)]
theorem rowKJ_set (ps : List (List Int)) (L k j : Nat) (_hj : j < L) : (rowKJ ps L k j).set j (posK ps (k + 1) j) = rowKJ ps L k (j + 1) := by
  apply List.ext_getElem
  · simp [rowKJ]
  · intro i h1 h2
    rw [List.getElem_set, rowKJ_get ps L k (j + 1) i h2]
    by_cases e : j = i
    · subst e
      rw [if_pos rfl, if_pos (by omega)]
    · rw [if_neg e, rowKJ_get]
      by_cases hlt : i < j
      · rw [if_pos hlt, if_pos (by omega)]
      · rw [if_neg hlt, if_neg (by omega)]
theorem rowKJ_end (ps : List (List Int)) (L : Nat) : rowKJ ps L ps.length 0 = endL ps L := by
  apply List.ext_getElem
  · simp [rowKJ, endL]
  · intro i h1 h2
    rw [rowKJ_get, if_neg (by omega)]
    simp [endL]
theorem mul_small {a b : Int} (ha : -1200 ≤ a ∧ a ≤ 1200) (hb : -100 ≤ b ∧ b ≤ 100) : -120000 ≤ a * b ∧ a * b ≤ 120000 := by
  have h : (a * b).natAbs ≤ 1200 * 100 := by rw [Int.natAbs_mul]; exact Nat.mul_le_mul (by omega) (by omega)
  omega
end Go.Proofs.Ytolbgdgoambliaa

namespace Go.Proofs.Ytolbgdgoambliaa
open Go.RowKit

section
variable (lo hi : Nat) (L : Int) (a : Option Addr) (cap : Nat) (ps : List (List Int)) (hl : ps.length ≤ 1048576) (hs : flat ps ≤ 1048576) (w : World) (hr : PRow lo hi w a ps) (hh : hi ≤ w.heap.size)
include hl hs hr
end

/-- three cells of a block, which may be written -/
def Tri (w : World) (g : Nat) (x y z : Int) : Prop := g < w.heap.size ∧ w.cell? ⟨g, 0, none⟩ = some (.int .i64 x) ∧ w.cell? ⟨g, 1, none⟩ = some (.int .i64 y) ∧ w.cell? ⟨g, 2, none⟩ = some (.int .i64 z) ∧
  w.frozen? ⟨g, 0, none⟩ = false ∧ w.frozen? ⟨g, 1, none⟩ = false ∧ w.frozen? ⟨g, 2, none⟩ = false
theorem Tri.below {w w' : World} {B g : Nat} {x y z : Int} (h : Tri w g x y z) (hb : Below B w w') (hg : g < B) : Tri w' g x y z :=
  ⟨Nat.lt_of_lt_of_le h.1 hb.size, (hb.cell (p := ⟨g, 0, none⟩) hg).trans h.2.1, (hb.cell (p := ⟨g, 1, none⟩) hg).trans h.2.2.1, (hb.cell (p := ⟨g, 2, none⟩) hg).trans h.2.2.2.1,
    (hb.frozen (p := ⟨g, 0, none⟩) hg).trans h.2.2.2.2.1, (hb.frozen (p := ⟨g, 1, none⟩) hg).trans h.2.2.2.2.2.1, (hb.frozen (p := ⟨g, 2, none⟩) hg).trans h.2.2.2.2.2.2⟩
theorem Tri.set {w : World} {g : Nat} {x y z : Int} (h : Tri w g x y z) (x' y' z' : Int) : Tri (((w.setCell ⟨g, 0, none⟩ (.int .i64 x')).setCell ⟨g, 1, none⟩ (.int .i64 y')).setCell ⟨g, 2, none⟩ (.int .i64 z')) g x' y' z' := by
  obtain ⟨h0, c0, c1, c2, f0, f1, f2⟩ := h
  have ne : ∀ {a b : Nat}, a ≠ b → (⟨g, a, none⟩ : Addr) ≠ ⟨g, b, none⟩ := fun h e => h (by injection e)
  refine ⟨by simp only [World.size_setCell]; exact h0, ?_, ?_, ?_, by simp only [World.frozen?_setCell]; exact f0, by simp only [World.frozen?_setCell]; exact f1, by simp only [World.frozen?_setCell]; exact f2⟩
  · rw [World.cell?_setCell_other _ _ _ _ (ne (by omega)), World.cell?_setCell_other _ _ _ _ (ne (by omega))]; exact World.cell?_setCell_same _ _ _ c0
  · rw [World.cell?_setCell_other _ _ _ _ (ne (by omega))]
    refine World.cell?_setCell_same _ _ _ (u := .int .i64 y) ?_
    rw [World.cell?_setCell_other _ _ _ _ (ne (by omega))]; exact c1
  · refine World.cell?_setCell_same _ _ _ (u := .int .i64 z) ?_
    rw [World.cell?_setCell_other _ _ _ _ (ne (by omega)), World.cell?_setCell_other _ _ _ _ (ne (by omega))]; exact c2
theorem Tri.ints {w : World} {g : Nat} {x y z : Int} (h : Tri w g x y z) {zs : List Int} (hl : zs.length ≤ 3) (h0 : ∀ (h : 0 < zs.length), zs[0] = x) (h1 : ∀ (h : 1 < zs.length), zs[1] = y) (h2 : ∀ (h : 2 < zs.length), zs[2] = z) : IntsIn w g 0 zs := fun i hi => by
  have : i = 0 ∨ i = 1 ∨ i = 2 := by omega
  rcases this with rfl | rfl | rfl
  · rw [h0 hi]; exact h.2.1
  · rw [h1 hi]; exact h.2.2.1
  · rw [h2 hi]; exact h.2.2.2.1
theorem endL_get (ps : List (List Int)) (L i : Nat) (h : i < (endL ps L).length) : (endL ps L)[i] = posK ps ps.length i := by simp [endL]
theorem mv_get {ps : List (List Int)} {k : Nat} (h : k < (ps.map mvOf).length) : (ps.map mvOf)[k] = ⟨(ps.getD k []).getD 0 0, (ps.getD k []).getD 1 0, (ps.getD k []).getD 2 0⟩ := by
  have hk : k < ps.length := by simpa using h
  rw [List.getElem_map, getD_of hk]; rfl

end Go.Proofs.Ytolbgdgoambliaa
