/-
  Rows of words (slices of strings) in memory: read, owned, compared, marked.
  append onto a row of words of the call's own.
  Plain mathematics of the numbers of words: the letters that come off from the last one on, in the program's way and in its model's. No program is named here.
  Plain mathematics of the lists of all words of a length.
  Contracts of WordOfNumber, of the program and of its model, and of the program's way to write one letter.
  'FnExactWordsOf' returns true at every input for which the two functions' contracts stand: the program's WordsOf and its model's return the same words and code, in memory of its own.
  The lists of all words of a length, of the program and of its model.
  Contracts of WordsOf, of the program and of its model: both return the same words and code.
  Maps from words to fractions that a call makes itself: what they hold, as a function; the laws at the operations.
  Plain mathematics of pairings: the sum of the products of the values that two series have at the same words. No program is named here.
-/
import Derived.Test.YtolbgdgoambliaaSer
import Derived.Test.YtolbgdgoambliaaPartOf
import Derived.Test.YtolbgdgoambliaaArith
import Derived.Test.YtolbgdgoambliaaOrd
import Derived.Test.YtolbgdgoambliaaRes
import Derived.Test.YtolbgdgoambliaaTol
import Derived.Deep.AppendLies
import Derived.Deep.RegionLaw
import Derived.WalkSpells
import Derived.StillTailTactics
import Derived.OwnWalk
import Derived.Laws.Pointers
import Derived.IntWalk
import Derived.Laws.BytesArg
import Derived.Maps.OwnSet
import Derived.Maps.Views
import Derived.KernelRfl
namespace Go.Proofs.Ytolbgdgoambliaa
open Go.RowKit

/-- words in a row of cells of block `b` from `off` on -/
def StrsIn (w : World) (b off : Nat) (ss : List ByteArray) : Prop := ∀ i (h : i < ss.length), w.cell? ⟨b, off + i, none⟩ = some (.string ss[i])
theorem StrsIn.below {w w' : World} {B b off : Nat} {ss : List ByteArray} (h : StrsIn w b off ss) (hb : Below B w w') (hlt : b < B) : StrsIn w' b off ss := fun i hi =>
  (hb.cell (p := ⟨b, _, none⟩) hlt).trans (h i hi)
theorem StrsIn.grown {w w' : World} {b off : Nat} {ss : List ByteArray} {r : Option Nat} (h : StrsIn w b off ss) (hg : w.grownBy w' r) (hlt : b < w.heap.size) (hne : some b ≠ r) : StrsIn w' b off ss := fun i hi =>
  (World.cell?_of_block (a := ⟨b, _, none⟩) (hg.block b hlt hne)).trans (h i hi)
theorem StrsIn.setCell {w : World} {g off : Nat} {ss : List ByteArray} (h : StrsIn w g off ss) {p : Addr} (hp : p.block ≠ g) (u : Value) : StrsIn (w.setCell p u) g off ss := fun i hi =>
  (World.cell?_setCell_far _ _ _ _ hp).trans (h i hi)

/-- a row of words, or none -/
def SRow (w : World) (a : Option Addr) (ss : List ByteArray) : Prop := ss = [] ∨ ∃ b off, a = some ⟨b, off, none⟩ ∧ b < w.heap.size ∧ StrsIn w b off ss
theorem SRow.below {w w' : World} {B : Nat} {a : Option Addr} {ss : List ByteArray} (h : SRow w a ss) (hb : Below B w w') (hB : w.heap.size ≤ B) : SRow w' a ss := by
  rcases h with h | ⟨b, off, h1, h2, h3⟩
  · exact .inl h
  · exact .inr ⟨b, off, h1, Nat.lt_of_lt_of_le h2 hb.size, h3.below hb (by omega)⟩
/-- a row of words within bounds of blocks -/
def SRowB (hi : Nat) (w : World) (a : Option Addr) (ss : List ByteArray) : Prop := ss = [] ∨ ∃ b off, a = some ⟨b, off, none⟩ ∧ b < hi ∧ StrsIn w b off ss
theorem SRowB.row {hi : Nat} {w : World} {a : Option Addr} {ss : List ByteArray} (h : SRowB hi w a ss) (hh : hi ≤ w.heap.size) : SRow w a ss := by
  rcases h with h | ⟨b, off, h1, h2, h3⟩
  · exact .inl h
  · exact .inr ⟨b, off, h1, by omega, h3⟩
theorem SRowB.below {hi B : Nat} {w w' : World} {a : Option Addr} {ss : List ByteArray} (h : SRowB hi w a ss) (hb : Below B w w') (hh : hi ≤ B) : SRowB hi w' a ss := by
  rcases h with h | ⟨b, off, h1, h2, h3⟩
  · exact .inl h
  · exact .inr ⟨b, off, h1, h2, h3.below hb (by omega)⟩
theorem SRowB.grown {hi : Nat} {w w' : World} {a : Option Addr} {ss : List ByteArray} {r : Option Nat} (h : SRowB hi w a ss) (hg : w.grownBy w' r) (hh : hi ≤ w.heap.size) (hr : ∀ g, r = some g → hi ≤ g) : SRowB hi w' a ss := by
  rcases h with h | ⟨b, off, h1, h2, h3⟩
  · exact .inl h
  · exact .inr ⟨b, off, h1, h2, h3.grown hg (by omega) (fun e => by have := hr b e.symm; omega)⟩
/-- a new row of words within bounds, which may be written -/
def NewS (lo hi : Nat) (w : World) (a : Option Addr) (ss : List ByteArray) : Prop := ss = [] ∨ ∃ g, a = some ⟨g, 0, none⟩ ∧ lo ≤ g ∧ g < hi ∧ Made w g ss.length ∧ StrsIn w g 0 ss
theorem NewS.rowB {lo hi : Nat} {w : World} {a : Option Addr} {ss : List ByteArray} (h : NewS lo hi w a ss) : SRowB hi w a ss := by
  rcases h with h | ⟨g, h1, h2, h3, h4, h5⟩
  · exact .inl h
  · exact .inr ⟨g, 0, h1, h3, h5⟩
theorem NewS.row {lo hi : Nat} {w : World} {a : Option Addr} {ss : List ByteArray} (h : NewS lo hi w a ss) : SRow w a ss := by
  rcases h with h | ⟨g, h1, h2, h3, h4, h5⟩
  · exact .inl h
  · exact .inr ⟨g, 0, h1, h4.1, h5⟩
theorem NewS.mono {lo hi lo' hi' : Nat} {w : World} {a : Option Addr} {ss : List ByteArray} (h : NewS lo hi w a ss) (h1 : lo' ≤ lo) (h2 : hi ≤ hi') : NewS lo' hi' w a ss := by
  rcases h with h | ⟨g, e, a1, a2, a3, a4⟩
  · exact .inl h
  · exact .inr ⟨g, e, by omega, by omega, a3, a4⟩
theorem NewS.below {lo hi B : Nat} {w w' : World} {a : Option Addr} {ss : List ByteArray} (h : NewS lo hi w a ss) (hb : Below B w w') (hh : hi ≤ B) : NewS lo hi w' a ss := by
  rcases h with h | ⟨g, h1, h2, h3, h4, h5⟩
  · exact .inl h
  · exact .inr ⟨g, h1, h2, h3, h4.below hb (by omega), h5.below hb (by omega)⟩

def cellsS (ss : List ByteArray) : List Value := ss.map Value.string
/-- the value owns the words, in a row from the block `base` on -/
def OwnS (w : World) (base : Nat) (v : Value) (ss : List ByteArray) : Prop := w.ownsRow base 9 1 v ss.length (cellsS ss)
theorem OwnS.nil (w : World) (base : Nat) : OwnS w base (.slice none 0 0) [] := World.ownsRow_nil w base _ 1
theorem OwnS.newS {w : World} {base : Nat} {v : Value} {ss : List ByteArray} (h : OwnS w base v ss) : ∃ a cap, v = .slice a ss.length cap ∧ ss.length ≤ cap ∧ NewS base w.heap.size w a ss := by
  rcases h.2 with ⟨rfl, h0⟩ | ⟨g, cap, cur, rfl, hbg, hg, hnc, hcm, hcs, htake⟩
  · have e : ss = [] := List.eq_nil_of_length_eq_zero h0
    subst e
    exact ⟨none, 0, rfl, Nat.le_refl _, .inl rfl⟩
  · have hlt : g < w.heap.size := by
      rcases Nat.lt_or_ge g w.heap.size with hlt | hge
      · exact hlt
      · rw [Array.getElem?_eq_none hge] at hg; cases hg
    have hcell : ∀ j, w.cell? ⟨g, j, none⟩ = cur[j]? := fun j => cell_of_row w g j cur _ (0, 0) hg
    have hsz : ss.length ≤ cur.size := by rw [hcs]; omega
    have hat : ∀ j, j < ss.length → cur[j]? = (cellsS ss)[j]? := fun j hj => by
      rw [← htake, List.getElem?_take, if_pos (by omega)]; simp
    refine ⟨some ⟨g, 0, none⟩, cap, rfl, hnc, .inr ⟨g, rfl, hbg, hlt, ⟨hlt, fun j hj => ⟨?_, ?_⟩⟩, fun i hi => ?_⟩⟩
    · exact ⟨cur[j]'(by omega), by rw [hcell]; exact Array.getElem?_eq_getElem (by omega)⟩
    · simp [World.frozen?, hg]
    · rw [hcell, Nat.zero_add, hat i hi]
      simp [cellsS]
theorem OwnS.below {B base : Nat} {w w' : World} {v : Value} {ss : List ByteArray} (h : OwnS w base v ss) (hb : Below B w w') (hv : ∀ g, v.ownBlock = some g → g < B) : OwnS w' base v ss := by
  rcases h with ⟨hl, h⟩
  refine ⟨hl, ?_⟩
  rcases h with h | ⟨g, cap, cur, rfl, hbg, hg, rest⟩
  · exact .inl h
  · exact .inr ⟨g, cap, cur, rfl, hbg, by rw [hb.block g (hv g rfl)]; exact hg, rest⟩
theorem OwnS.lt {base : Nat} {w : World} {v : Value} {ss : List ByteArray} (h : OwnS w base v ss) : ∀ g, v.ownBlock = some g → base ≤ g ∧ g < w.heap.size := fun g hv => by
  rcases h.2 with ⟨rfl, h0⟩ | ⟨g', cap, cur, rfl, hbg, hg, hnc, hcm, hcs, htake⟩
  · simp [Value.ownBlock] at hv
  · have e : g' = g := by simpa [Value.ownBlock] using hv
    subst e
    refine ⟨hbg, ?_⟩
    rcases Nat.lt_or_ge g' w.heap.size with hlt | hge
    · exact hlt
    · rw [Array.getElem?_eq_none hge] at hg; cases hg
theorem OwnS.far {base : Nat} {w : World} {v : Value} {ss : List ByteArray} (h : OwnS w base v ss) {p : Addr} (hp : v.ownBlock ≠ some p.block) (u : Value) : OwnS (w.setCell p u) base v ss := by
  rcases h with ⟨hl, h⟩
  refine ⟨hl, ?_⟩
  rcases h with h | ⟨g, cap, cur, rfl, hbg, hg, rest⟩
  · exact .inl h
  · refine .inr ⟨g, cap, cur, rfl, hbg, ?_, rest⟩
    rw [Below.heap_setCell w p u g (fun e => hp (by rw [← e]; rfl))]; exact hg
theorem OwnS.alloc {base : Nat} {w : World} {v : Value} {ss : List ByteArray} (h : OwnS w base v ss) (o : Obj) : OwnS (w.alloc o) base v ss :=
  h.below (below1 w o) (fun g hg => (h.lt g hg).2)
theorem OwnS.emptyRow {w : World} {base g : Nat} (h : w.heap[g]? = some (.cells #[] 9 (0, 0))) (hb : base ≤ g) : OwnS w base (.slice (some ⟨g, 0, none⟩) 0 0) [] :=
  ⟨rfl, .inr ⟨g, 0, #[], rfl, hb, h, Nat.le_refl _, Nat.zero_le _, rfl, rfl⟩⟩
theorem OwnS.mono {w : World} {base base' : Nat} {v : Value} {ss : List ByteArray} (h : OwnS w base v ss) (hb : base' ≤ base) : OwnS w base' v ss := by
  rcases h with ⟨hl, h | ⟨g, cap, cur, rfl, hbg, rest⟩⟩
  · exact ⟨hl, .inl h⟩
  · exact ⟨hl, .inr ⟨g, cap, cur, rfl, Nat.le_trans hb hbg, rest⟩⟩
theorem cellsS_oneCell (ss : List ByteArray) : ∀ u ∈ cellsS ss, u.oneCell' = true := fun u hu => by
  unfold cellsS at hu
  obtain ⟨t, _, rfl⟩ := List.mem_map.1 hu
  rfl
theorem cellsS_append (xs ys : List ByteArray) : cellsS (xs ++ ys) = cellsS xs ++ cellsS ys := by simp [cellsS]
theorem info_string : (Try.prog.info? 9).map (fun i => (i.zero, i.size, i.bytes)) = some (some (.string ByteArray.empty), 1, 16) := by kernel_rfl

/-- the words that marking leaves, from the number `k` on -/
def markedS (k : Int) : List ByteArray → List ByteArray
  | [] => []
  | _ :: r => mkT k :: markedS (k + 1) r
theorem markedS_length : ∀ (k : Int) (ss : List ByteArray), (markedS k ss).length = ss.length
  | _, [] => rfl
  | k, _ :: r => by simp [markedS, markedS_length (k + 1) r]
theorem markedS_get : ∀ (k : Int) (ss : List ByteArray) (i : Nat) (h : i < (markedS k ss).length), (markedS k ss)[i] = mkT (k + i)
  | _, [], i, h => by simp [markedS] at h
  | k, _ :: r, 0, _ => by simp [markedS]
  | k, _ :: r, i + 1, h => by
    have hi : i < (markedS (k + 1) r).length := by simpa [markedS] using h
    have e := markedS_get (k + 1) r i hi
    have e2 : k + 1 + (i : Int) = k + ((i + 1 : Nat) : Int) := by omega
    rw [e2] at e
    simpa [markedS] using e
theorem StrsIn.snoc {w : World} {g k : Nat} {ss : List ByteArray} (hk : k < ss.length) (h : StrsIn w g 0 (ss.take k)) (hm : Made w g ss.length) {s : ByteArray} (hs : ss[k] = s) : StrsIn (w.setCell ⟨g, k, none⟩ (.string s)) g 0 (ss.take (k + 1)) := by
  intro i hi
  have hi' : i < k + 1 := by rw [List.length_take] at hi; omega
  rw [List.getElem_take]
  simp only [Nat.zero_add]
  by_cases hik : i < k
  · have h0 := h i (by rw [List.length_take]; omega)
    rw [List.getElem_take] at h0
    simp only [Nat.zero_add] at h0
    rw [World.cell?_setCell_other _ _ _ _ (fun e => by injection e with _ e2; omega)]; exact h0
  · obtain rfl : i = k := by omega
    obtain ⟨⟨v0, m0⟩, -⟩ := hm.2 i hk
    rw [hs]
    exact World.cell?_setCell_same _ _ _ m0

/-- what marking comes to: at most one block within the bounds has changed -/
def MarkSR (lo hi : Nat) (a : Option Addr) (ss' : List ByteArray) (k' : Int) (W : World) (e : Ending) (w' : World) : Prop :=
  ∃ r : Option Nat, e = .returned (.int .i64 k') ∧ W.grownBy w' r ∧ (∀ g, r = some g → lo ≤ g ∧ g < hi) ∧ NewS lo hi w' a ss'

end Go.Proofs.Ytolbgdgoambliaa

namespace Go.Proofs.Ytolbgdgoambliaa
open Go.RowKit

theorem strs_news {w : World} {b off : Nat} {ss : List ByteArray} (h : StrsIn w b off ss) : ∀ j u, (cellsS ss)[j]? = some u → w.cell? ((⟨b, off, none⟩ : Addr).add j) = some u := fun j u hu => by
  have hj : j < ss.length := by have := (List.getElem?_eq_some_iff.1 hu).1; simpa [cellsS] using this
  rw [add_at, h j hj]
  simp only [cellsS, List.getElem?_map, List.getElem?_eq_getElem hj, Option.map_some, Option.some.injEq] at hu
  rw [hu]

set_option maxRecDepth 100000 in
theorem run_append_strs (w : World) (ty : TypeId) (base : Nat) (v : Value) (n : Nat) (xs ys : List ByteArray) (hn : n = xs.length) (hown : OwnS w base v xs) (A : Option Addr) (m c : Nat) (hm : m = ys.length)
    (hsrc : m = 0 ∨ ∃ b off, A = some ⟨b, off, none⟩ ∧ StrsIn w b off ys) (hbig : n + m ≤ 4194304) (hbase : base ≤ w.heap.size) :
    ∃ a' c' w', (Builtin.append_ #[26, 26] ty #[v, .slice A m c]).run Try.prog w = .ok (.slice a' (n + m) c') w' ∧ OwnS w' base (.slice a' (n + m) c') (xs ++ ys) ∧ w.grownBy w' v.ownBlock ∧
      ((Value.slice a' (n + m) c').ownBlock = v.ownBlock ∨ (Value.slice a' (n + m) c').ownBlock = some w.heap.size) := by
  obtain ⟨i0, hi0, hi1, hi2, hi3⟩ := info_parts info_string
  subst hn hm
  have hform : ∀ (W : World) (u : Value) (zs : List ByteArray), OwnS W base u zs → ∃ a' c', u = .slice a' zs.length c' := fun W u zs h => by
    obtain ⟨a', c', h1, _, _⟩ := h.newS
    exact ⟨a', c', h1⟩
  rcases A with _ | ad
  · have h0 : ys = [] := by
      rcases hsrc with h | ⟨b, off, h, _⟩
      · exact List.eq_nil_of_length_eq_zero h
      · cases h
    subst h0
    obtain ⟨a', c', rfl⟩ := hform _ _ _ hown
    refine ⟨a', c', w, ?_, by simpa using hown, World.grownBy.refl w _, .inl rfl⟩
    rcases hown.2 with ⟨h1, h2⟩ | ⟨g, cap, cur, h1, _, _, hnc, _⟩
    · injection h1 with e1 e2 e3
      subst e1 e3
      simp [Builtin.append_, run_underlying Try.underlying26, sizeOf, typeInfo, hi0, Builtin.lenOf, Builtin.firstCells, h2]
    · injection h1 with e1 e2 e3
      subst e1 e3
      simp [Builtin.append_, run_underlying Try.underlying26, sizeOf, typeInfo, hi0, Builtin.lenOf, Builtin.firstCells, hnc, storeCells]
  · have hnews : ∀ j u, (cellsS ys)[j]? = some u → w.cell? (ad.add j) = some u := fun j u hu => by
      rcases hsrc with h | ⟨b, off, h, ht⟩
      · have e : ys = [] := List.eq_nil_of_length_eq_zero h
        subst e
        simp [cellsS] at hu
      · cases h
        exact strs_news ht j u hu
    obtain ⟨v', w', hr, h2, h3, _, h5⟩ := run_append_own_at (P := Try.prog) w base 26 ty 9 i0 _ 1 16 Try.underlying26 hi0 hi1 hi2 hi3 rfl (by omega) v xs.length (cellsS xs) hown ad ys.length c (cellsS ys) (by simp [cellsS]) hnews (cellsS_oneCell ys) (by unfold maxLen; omega) (by omega) hbase
    have hO : OwnS w' base v' (xs ++ ys) := by
      unfold OwnS
      rw [List.length_append, cellsS_append]
      exact h2
    obtain ⟨a', c', rfl⟩ := hform _ _ _ hO
    rw [List.length_append] at hr hO h5
    exact ⟨a', c', w', hr, hO, h3, h5⟩

theorem wpList_append_strs {ops : Array Oper} {rest : List Oper} {o : Oper} {a : Act} {w : World} {Q : Exit → Act → World → Prop} (hgd : o.guard = none) (s x : Operand)
    (ho : o.op = .call { callee := .builtin .append, args := #[s, x], argTypes := #[26, 26] })
    (base : Nat) (v : Value) (n : Nat) (xs ys : List ByteArray) (hs : a.eval s = v) (hn : n = xs.length) (hown : OwnS w base v xs) (A : Option Addr) (m c : Nat) (hx : a.eval x = .slice A m c) (hm : m = ys.length)
    (hsrc : m = 0 ∨ ∃ b off, A = some ⟨b, off, none⟩ ∧ StrsIn w b off ys) (hbig : n + m ≤ 4194304) (hbase : base ≤ w.heap.size)
    (h : ∀ a' c' w', OwnS w' base (.slice a' (n + m) c') (xs ++ ys) → w.grownBy w' v.ownBlock → ((Value.slice a' (n + m) c').ownBlock = v.ownBlock ∨ (Value.slice a' (n + m) c').ownBlock = some w.heap.size) → wpList Try.prog ops Q rest (a.put o.dst (.slice a' (n + m) c')) w') :
    wpList Try.prog ops Q (o :: rest) a w := by
  refine wpList_plain hgd fun K hK => ?_
  obtain ⟨a', c', w', hr, h2, h3, h4⟩ := run_append_strs w o.type base v n xs ys hn hown A m c hm hsrc hbig hbase
  unfold Oper.wp execOp
  simp only [ho, resolve, invoke, builtin, Sem.run_bind, Sem.run_pure, Result.andThen_ok, List.map_toArray, List.map_cons, List.map_nil, hs, hx, hr]
  exact hK _ _ (h a' c' w' h2 h3 h4)

theorem strs_one (w : World) (s : ByteArray) : StrsIn (w.alloc (.cells #[.string s] 9)) w.heap.size 0 [s] := fun i hi => by
  have h0 : i = 0 := by simpa using hi
  subst h0
  simp [go_sem]
theorem OwnS.one (w : World) (s : ByteArray) : OwnS (w.alloc (.cells #[.string s] 9)) w.heap.size (.slice (some ⟨w.heap.size, 0, none⟩) 1 1) [s] :=
  ⟨rfl, .inr ⟨w.heap.size, 1, #[.string s], rfl, Nat.le_refl _, heap_alloc_new w _, Nat.le_refl _, by unfold maxLen; omega, rfl, rfl⟩⟩
theorem own_grownS {B : Nat} {w w' : World} {v : Value} {ss : List ByteArray} (hO : OwnS w B v ss) (hg : w.grownBy w' v.ownBlock) (hB : B ≤ w.heap.size) : Below B w w' := below_of_grown hg (fun g h => (hO.lt g h).1) hB
/-- a row that the call owns stands aside while another value's row grows -/
theorem SRowB.aside {B : Nat} {w w' : World} {a : Option Addr} {v : Value} {ss zs : List ByteArray} (h : SRowB B w a ss) (hO : OwnS w B v zs) (hg : w.grownBy w' v.ownBlock) (hB : B ≤ w.heap.size) : SRowB B w' a ss :=
  h.grown hg hB (fun g e => (hO.lt g e).1)

/-- a byte, as a text -/
theorem conv_letter (x : Int) (W : World) (g : Nat) (hc : W.cell? ⟨g, 0, none⟩ = some (.int .u8 x)) :
    (convert 22 9 (.slice (some ⟨g, 0, none⟩) 1 1)).run Try.prog W = .ok (.string ⟨#[UInt8.ofNat x.toNat]⟩) W := by
  have h := run_convert_bytes_arg (P := Try.prog) W 22 5 Try.underlying22 Try.underlying5 g 0 1 1 [x] rfl (fun i hi => by
    obtain rfl : i = 0 := by omega
    simpa using hc) 9 Try.underlying9
  rw [h]
  rfl
end Go.Proofs.Ytolbgdgoambliaa

namespace Go.Proofs.Ytolbgdgoambliaa

/-- the letter of a number, as a word -/
def letW (i : Int) : ByteArray := ⟨#[UInt8.ofNat (48 + i).toNat]⟩
/-- how many words have fewer letters than n -/
def offs (d : Int) : Nat → Int
  | 0 => 0
  | n + 1 => offs d n + d ^ n
/-- the word that the program makes: each step undoes one of the number's -/
def wordI (d : Int) : Nat → Int → ByteArray → ByteArray
  | 0, _, acc => acc
  | f + 1, k, acc => if 0 < k then wordI d f ((k - 1) / d) (letW ((k - 1) % d) ++ acc) else acc
/-- the word that the model makes: n letters of a rest -/
def wordS (d : Int) : Nat → Int → ByteArray → ByteArray
  | 0, _, acc => acc
  | n + 1, r, acc => wordS d n (r / d) (letW (r % d) ++ acc)

theorem offs_nonneg {d : Int} (hd : 1 ≤ d) : ∀ n, 0 ≤ offs d n
  | 0 => by simp [offs]
  | n + 1 => by have := offs_nonneg hd n; have : 0 < d ^ n := Int.pow_pos (by omega); simp only [offs]; omega
theorem offs_step {d : Int} : ∀ n, offs d (n + 1) - 1 = d * offs d n
  | 0 => by simp [offs]
  | n + 1 => by
    have ih := offs_step (d := d) n
    have e : offs d (n + 2) = offs d (n + 1) + d ^ (n + 1) := rfl
    rw [e, show offs d (n + 1) = offs d n + d ^ n from rfl, Int.mul_add, ← ih, show offs d (n + 1) = offs d n + d ^ n from rfl, Int.pow_succ, Int.mul_comm d (d ^ n)]
    omega
theorem word_same {d : Int} (hd : 1 ≤ d) : ∀ (n f : Nat) (r : Int) (acc : ByteArray), n ≤ f → 0 ≤ r → r < d ^ n → wordI d f (offs d n + r) acc = wordS d n r acc
  | 0, f, r, acc, _, h0, h1 => by
    have hr : r = 0 := by simp at h1; omega
    subst hr
    cases f with
    | zero => rfl
    | succ f => simp [wordI, wordS, offs]
  | n + 1, f, r, acc, hf, h0, h1 => by
    obtain ⟨f, rfl⟩ : ∃ g, f = g + 1 := ⟨f - 1, by omega⟩
    have hs := offs_step (d := d) n
    have hn := offs_nonneg hd n
    have hp : 0 < d ^ n := Int.pow_pos (by omega)
    have hpos : 0 < offs d (n + 1) + r := by simp only [offs]; omega
    have e : offs d (n + 1) + r - 1 = r + d * offs d n := by omega
    have e1 : (offs d (n + 1) + r - 1) / d = offs d n + r / d := by rw [e, Int.add_mul_ediv_left _ _ (by omega)]; omega
    have e2 : (offs d (n + 1) + r - 1) % d = r % d := by rw [e, Int.add_mul_emod_self_left]
    rw [wordI, if_pos hpos, e1, e2, word_same hd n f (r / d) _ (by omega) (Int.ediv_nonneg h0 (by omega)) (by rw [Int.pow_succ] at h1; exact Int.ediv_lt_of_lt_mul (by omega) h1)]
    rfl
theorem letW_size (i : Int) : (letW i).size = 1 := rfl
theorem wordS_size (d : Int) : ∀ (n : Nat) (r : Int) (acc : ByteArray), (wordS d n r acc).size = acc.size + n
  | 0, r, acc => rfl
  | n + 1, r, acc => by
    rw [wordS, wordS_size d n, ByteArray.size_append, letW_size]; omega
end Go.Proofs.Ytolbgdgoambliaa

namespace Go.Proofs.Ytolbgdgoambliaa

/-- the words that are one letter longer -/
def longer (d : Nat) (w : ByteArray) : List ByteArray := (List.range d).map fun (k : Nat) => w ++ letW (k : Int)
def nextL (d : Nat) (ws : List ByteArray) : List ByteArray := ws.flatMap (longer d)
def wordsL (d : Nat) : Nat → List ByteArray
  | 0 => [ByteArray.empty]
  | n + 1 => nextL d (wordsL d n)
theorem longer_length (d : Nat) (w : ByteArray) : (longer d w).length = d := by simp [longer]
theorem longer_take {d k : Nat} (w : ByteArray) (h : k < d) : (longer d w).take (k + 1) = (longer d w).take k ++ [w ++ letW k] := by
  rw [List.take_succ_eq_append_getElem (by rw [longer_length]; exact h)]
  simp [longer]
theorem nextL_length (d : Nat) (ws : List ByteArray) : (nextL d ws).length = ws.length * d := by
  unfold nextL
  induction ws with
  | nil => simp
  | cons w ws ih => rw [List.flatMap_cons, List.length_append, ih, longer_length]; simp [Nat.add_mul]; omega
theorem nextL_take {d i : Nat} {ws : List ByteArray} (h : i < ws.length) : nextL d (ws.take (i + 1)) = nextL d (ws.take i) ++ longer d ws[i] := by
  unfold nextL
  rw [List.take_succ_eq_append_getElem h, List.flatMap_append]
  simp only [List.flatMap_cons, List.flatMap_nil, List.append_nil]
theorem wordsL_length (d : Nat) : ∀ n, (wordsL d n).length = d ^ n
  | 0 => rfl
  | n + 1 => by rw [wordsL, nextL_length, wordsL_length d n, Nat.pow_succ]
theorem wordsL_size (d : Nat) : ∀ (n : Nat) (s : ByteArray), s ∈ wordsL d n → s.size = n
  | 0, s, h => by simp [wordsL] at h; subst h; rfl
  | n + 1, s, h => by
    unfold wordsL nextL at h
    obtain ⟨u, hu, hs⟩ := List.mem_flatMap.1 h
    unfold longer at hs
    obtain ⟨k, hk, rfl⟩ := List.mem_map.1 hs
    rw [ByteArray.size_append, wordsL_size d n u hu, letW_size]
theorem wordsL_few {d n : Nat} (hd : d ≤ 3) (hn : n ≤ 5) : (wordsL d n).length ≤ 243 := by
  rw [wordsL_length]
  have h1 : d ^ n ≤ 3 ^ n := Nat.pow_le_pow_left hd n
  have h2 : 3 ^ n ≤ 3 ^ 5 := Nat.pow_le_pow_right (by omega) hn
  have h3 : (3 : Nat) ^ 5 = 243 := by decide
  omega
end Go.Proofs.Ytolbgdgoambliaa

namespace Go.Proofs.Ytolbgdgoambliaa
open Go.RowKit

theorem offs_bd {d : Int} (h : 1 ≤ d ∧ d ≤ 3) (k : Nat) (hk : k ≤ 6) : 0 ≤ offs d k ∧ offs d k ≤ 364 := by
  have hd : d = 1 ∨ d = 2 ∨ d = 3 := by omega
  have hk' : k = 0 ∨ k = 1 ∨ k = 2 ∨ k = 3 ∨ k = 4 ∨ k = 5 ∨ k = 6 := by omega
  rcases hd with rfl | rfl | rfl <;> rcases hk' with rfl | rfl | rfl | rfl | rfl | rfl | rfl <;> decide
theorem offs_next {d : Int} (k : Nat) : offs d (k + 1) * d + 1 = offs d (k + 2) := by
  have h : offs d (k + 1 + 1) - 1 = d * offs d (k + 1) := offs_step (k + 1)
  rw [Int.mul_comm, ← h]
  show offs d (k + 1 + 1) - 1 + 1 = offs d (k + 1 + 1)
  omega
theorem add_str (a b : ByteArray) : a.size + b.size = (a ++ b).size := (ByteArray.size_append ..).symm

theorem wordI_zero (d : Int) (f : Nat) (acc : ByteArray) : wordI d f 0 acc = acc := by
  cases f with
  | zero => rfl
  | succ f => simp [wordI]
def WoNRel (d k : Int) (vk vs : Value) : Prop := ∃ (j : Int) (acc : ByteArray) (f : Nat), vk = .int .i64 j ∧ vs = .string acc ∧ 0 ≤ j ∧ j ≤ f ∧ f ≤ 364 ∧ acc.size + f ≤ 364 ∧ wordI d f j acc = wordI d 364 k ByteArray.empty
end Go.Proofs.Ytolbgdgoambliaa

namespace Go.Proofs.Ytolbgdgoambliaa
open Go.RowKit

/-- what a function that returns words and a code comes to -/
def StrPost (ss : List ByteArray) (c : Int) (W : World) (e : Ending) (w' : World) : Prop :=
  ∃ (a : Option Addr) (cap : Nat), e = .returned (.tuple #[.slice a ss.length cap, .int .i64 c]) ∧ Below W.heap.size W w' ∧ NewS W.heap.size w'.heap.size w' a ss

end Go.Proofs.Ytolbgdgoambliaa

namespace Go.Proofs.Ytolbgdgoambliaa
open Go.RowKit

/-- what a function that returns words alone comes to -/
def WordsPost (ss : List ByteArray) (W : World) (e : Ending) (w' : World) : Prop :=
  ∃ (a : Option Addr) (cap : Nat), e = .returned (.slice a ss.length cap) ∧ Below W.heap.size W w' ∧ NewS W.heap.size w'.heap.size w' a ss

/-- where an outer loop over words stands: so many are done -/
def NextRel (D : Nat) (ws : List ByteArray) (B : Nat) (W : World) (i k : Nat) (v : Value) (wr : World) : Prop :=
  ∃ (a : Option Addr) (l c : Nat), i ≤ ws.length ∧ v = .slice a l c ∧ l = i * D + k ∧ OwnS wr B (.slice a l c) (nextL D (ws.take i) ++ (match ws[i]? with | some s => (longer D s).take k | none => [])) ∧ Below B W wr

theorem next_len {D i k : Nat} {ws : List ByteArray} (hi : i < ws.length) (hk : k ≤ D) : (nextL D (ws.take i) ++ (longer D ws[i]).take k).length = i * D + k := by
  rw [List.length_append, nextL_length, List.length_take, List.length_take, longer_length]
  rw [Nat.min_eq_left (by omega), Nat.min_eq_left hk]

theorem OwnS.at_ {w : World} {base : Nat} {a : Option Addr} {l c : Nat} {ss : List ByteArray} (h : OwnS w base (.slice a l c) ss) : l = ss.length ∧ NewS base w.heap.size w a ss := by
  obtain ⟨a', c', he, hle, hN⟩ := h.newS
  injection he with e1 e2 e3
  subst e1 e3
  exact ⟨e2, hN⟩

set_option maxRecDepth 100000 in
set_option maxHeartbeats 8000000 in
theorem l01Words_c (D N : Nat) (hD : 1 ≤ D ∧ D ≤ 3) (hN : N ≤ 5) (w : World) :
    Calls Try.prog 43 #[.int .i64 D, .int .i64 N] w (WordsPost (wordsL D N) w) := by
  obtain ⟨i0, hi0, hi1, hi2, hi3⟩ := info_parts info_string
  go_enter Try.func43, Try.ntmps43
  go_wp2_with fail
  go_loopw [1, 5] (fun vn v wr => ∃ (j : Nat) (a : Option Addr) (l c : Nat), j ≤ N ∧ vn = .int .i64 ((N : Int) - j) ∧ v = .slice a l c ∧ l = (wordsL D j).length ∧ NewS w.heap.size wr.heap.size wr a (wordsL D j) ∧ Below w.heap.size w wr) (fun vn _ _ => (intOf vn).toNat)
  case atStart =>
    have h := (OwnS.one w ByteArray.empty).at_
    exact ⟨0, _, 1, 1, Nat.zero_le _, by simp, rfl, rfl, h.2, below1 _ _⟩
  case round =>
    obtain ⟨j, av, lv, cv, hj, rfl, rfl, hlv, hNw, hB⟩ := hrel
    have HB := Lib.hid hB
    have HL := Lib.hid hlv
    have HNw := Lib.hid hNw
    have hz := hB.size
    have hfew := wordsL_few (d := D) (n := j) hD.2 (by omega)
    have HSz := Lib.hid (wordsL_size D j)
    clear hB hlv hNw
    obtain ⟨wo, rfl⟩ : ∃ wo : World, wo = wr := ⟨_, rfl⟩
    by_cases hjn : j < N
    · have hpos : (0 : Int) < (N : Int) - j := by omega
      have hlf : lv ≤ 243 := by have := HL.out; omega
      generalize hws : wordsL D j = ws at HL HNw HSz hfew
      have HWS := Lib.hid hws
      clear hws
      go_wp2_with fail
      go_loopw [6, 7] (fun v vi wr => ∃ (i : Nat) (a : Option Addr) (l c : Nat), i ≤ ws.length ∧ vi = .int .i64 i ∧ v = .slice a l c ∧ l = i * D ∧ OwnS wr wo.heap.size (.slice a l c) (nextL D (ws.take i)) ∧ Below wo.heap.size wo wr) (fun _ vi _ => ws.length - (intOf vi).toNat)
      case atStart => exact ⟨0, _, 0, 0, Nat.zero_le _, rfl, rfl, by simp, OwnS.emptyRow (heap_alloc_new wo _) (Nat.le_refl _), below1 _ _⟩
      case round =>
        obtain ⟨i, a1, l1, c1, hi, rfl, rfl, hl1, hO1, hB1⟩ := hrel
        have HO1 := Lib.hid hO1
        have HB1 := Lib.hid hB1
        have HL1 := Lib.hid hl1
        have hz1 := hB1.size
        clear hO1 hB1 hl1
        obtain ⟨wm, rfl⟩ : ∃ wm : World, wm = wr := ⟨_, rfl⟩
        by_cases hlt : i < ws.length
        · rcases HNw.out with h | ⟨b, rfl, hb1, hb2, hM, ht⟩
          · rw [h] at hlt; simp at hlt
          have HT := Lib.hid (nextL_take (d := D) hlt)
          have hsz : (ws[i]).size ≤ 5 := by have := HSz.out _ (List.getElem_mem hlt); omega
          have c0 := ht i hlt
          rw [Nat.zero_add] at c0
          obtain ⟨s, hse⟩ : ∃ s, ws[i] = s := ⟨_, rfl⟩
          rw [hse] at c0 hsz HT
          have HC0 := Lib.hid c0
          have hlt2 : i < lv := by have := HL.out; omega
          have hlI : (i : Int) < (lv : Int) := by omega
          have hI0 : (0 : Int) ≤ (i : Int) := by omega
          clear hse ht hM c0
          go_wp2_with fail
          go_loopw [6, 8] (fun v vk wr => ∃ (k : Nat) (a : Option Addr) (l c : Nat), k ≤ D ∧ vk = .int .i64 k ∧ v = .slice a l c ∧ l = i * D + k ∧ OwnS wr wo.heap.size (.slice a l c) (nextL D (ws.take i) ++ (longer D s).take k) ∧ Below wo.heap.size wo wr) (fun _ vk _ => D - (intOf vk).toNat)
          case atStart => exact ⟨0, a1, l1, c1, Nat.zero_le _, rfl, rfl, HL1.out, by simpa using HO1.out, HB1.out⟩
          case round =>
            obtain ⟨k, a2, l2, c2, hk, rfl, rfl, hl2, hO2, hB2⟩ := hrel
            have HO2 := Lib.hid hO2
            have HB2 := Lib.hid hB2
            have HL2 := Lib.hid hl2
            have hz2 := hB2.size
            have hfew2 : l2 ≤ 1000 := by
              have h1 : i * D ≤ 243 * 3 := Nat.mul_le_mul (by omega) hD.2
              omega
            have c0 := (hB2.cell (p := ⟨b, i, none⟩) hb2).trans HC0.out
            have hbr : b < wr.heap.size := by omega
            clear hO2 hB2 hl2
            by_cases hkl : k < D
            · have hk0 : (0 : Int) ≤ (k : Int) := by omega
              have hk2 : (k : Int) ≤ 2 := by omega
              have hcv := conv_byte (48 + (k : Int)) (by omega) (by omega)
              have hsum : IntKind.i64.wrap (48 + (k : Int)) = 48 + (k : Int) := IntWalk.i64_in _ (by omega)
              have hu8 : IntKind.u8.wrap (48 + (k : Int)) = 48 + (k : Int) := by
                simp [IntKind.wrap, IntKind.signed, IntKind.bits]
                omega
              have hs63 : ¬ 9223372036854775807 < s.size + 1 := by omega
              have hcs1 := conv_letter (48 + (k : Int)) (wr.alloc (.cells #[.int .u8 (48 + (k : Int))] 5)) wr.heap.size (by go_simp)
              have hcs2 := conv_letter (48 + (k : Int)) (wr.alloc (.cells #[.int .u8 (48 + (k : Int))] 5)).drew wr.heap.size (by go_simp)
              have HTk := Lib.hid (longer_take s hkl)
              have HLen := Lib.hid (show l2 = (nextL D (ws.take i) ++ (longer D s).take k).length from by
                rw [HL2.out, List.length_append, nextL_length, List.length_take, List.length_take, longer_length, Nat.min_eq_left (by omega), Nat.min_eq_left hk])
              go_upto_region 11 with fail
              go_region_law
                ((refine step_append_lies _ (by rfl) _ _ _ (by rfl) wo.heap.size 9 i0 _ 1 16 Try.underlying26 hi0 hi1 hi2 hi3 rfl (by omega) (.slice a2 l2 c2) l2 (cellsS (nextL D (ws.take i) ++ (longer D s).take k)) (by rfl) (by have h := HO2.out; unfold OwnS at h; rw [← HLen.out] at h; exact ((h.alloc _).alloc _).drew)
                    ⟨wr.heap.size + 1, 0, none⟩ 1 1 [.string (s ++ ⟨#[UInt8.ofNat (48 + (k : Int)).toNat]⟩)] (by rfl) (by rfl) (World.news_of_block (cs := #[.string (s ++ ⟨#[UInt8.ofNat (48 + (k : Int)).toNat]⟩)]) (t := 9) (fr := (0, 0)) (by have h := heap_alloc_new (wr.alloc (.cells #[.int .u8 (48 + (k : Int))] 5)) (.cells #[.string (s ++ ⟨#[UInt8.ofNat (48 + (k : Int)).toNat]⟩)] 9); rw [World.size_alloc] at h; exact h)) (by simp [Value.oneCell'])
                    (by omega) (by unfold maxLen; omega) (by omega) (by simp; omega) (wr.heap.size + 1 + 1) (by simp) ?_; intro gg cg w2 hown1 hgrow hat hlt2))
              all_goals
                have HB3 := Lib.hid (HB2.out.trans ((Below.drew ((below2 wr (.cells #[.int .u8 (48 + (k : Int))] 5) (.cells #[.string (s ++ ⟨#[UInt8.ofNat (48 + (k : Int)).toNat]⟩)] 9)).mono hz2)).trans (below_of_grown hgrow (fun g h => (HO2.out.lt g h).1) (by simp; omega))))
                have HO3 := Lib.hid (show OwnS w2 wo.heap.size (.slice (some ⟨gg, 0, none⟩) (l2 + 1) cg) (nextL D (ws.take i) ++ (longer D s).take (k + 1)) from by
                  unfold OwnS
                  rw [HTk.out, ← List.append_assoc, List.length_append, ← HLen.out, cellsS_append]
                  exact hown1)
                clear hown1 hgrow hat
                go_wp2
                go_roundw
                case rel => exact ⟨k + 1, some ⟨gg, 0, none⟩, l2 + 1, cg, by omega, by go_num, rfl, by rw [HL2.out]; omega, HO3.out, HB3.out⟩
                case measure => simp [intOf]; omega
            · have HTD := Lib.hid (show (longer D s).take D = longer D s from List.take_of_length_le (by rw [longer_length]; exact Nat.le_refl _))
              obtain rfl : k = D := by omega
              have hkk : ¬ (k : Int) < (k : Int) := by omega
              go_wp2
              go_roundw
              case rel => exact ⟨i + 1, a2, l2, c2, by omega, by go_num, rfl, by rw [HL2.out, Nat.add_mul]; omega, by rw [HT.out]; have h := HO2.out; rwa [HTD.out] at h, HB2.out⟩
              case measure => simp [intOf]; omega
        · obtain rfl : i = ws.length := by omega
          have hge : ¬ (ws.length : Int) < (lv : Int) := by have := HL.out; omega
          have HO := Lib.hid (show OwnS wm wo.heap.size (.slice a1 l1 c1) (wordsL D (j + 1)) from by have h := HO1.out; rw [List.take_length] at h; rw [wordsL, HWS.out]; exact h)
          go_wp2
          go_roundw
          case rel => exact ⟨j + 1, a1, l1, c1, by omega, by first | (congr 1; omega) | go_num, rfl, HO.out.at_.1, HO.out.at_.2.mono hz (Nat.le_refl _), HB.out.trans (HB1.out.mono hz)⟩
          case measure => simp [intOf]; omega
    · obtain rfl : j = N := by omega
      have hnn : ¬ (0 : Int) < (j : Int) - j := by omega
      go_wp2
      go_ret
      exact ⟨av, cv, by first | rfl | (rw [← HL.out]; rfl) | (rw [HL.out]; rfl), HB.out, HNw.out⟩
end Go.Proofs.Ytolbgdgoambliaa

namespace Go.Proofs.Ytolbgdgoambliaa
open Go.RowKit

section
variable (d n : Int) (w : World)
end
end Go.Proofs.Ytolbgdgoambliaa

namespace Go.Proofs.Ytolbgdgoambliaa
open Go.RowKit
open Go.WideElems (Fit)
open Go.WideAt Go.WideMaps Go.ChangeMaps Go.Maps

theorem data_eq' {a b : ByteArray} (h : a.data.toList = b.data.toList) : a = b := by
  cases a; cases b; simp only at h; rw [Array.toList_inj.1 h]

/-- how a fraction reads -/
def fracR (v : Value) : Option (DataW Unit × List MemPlace) :=
  match v with
  | .agg vs => match vs.toList with
    | [.int .i64 n, .int .i64 d] => some (.agg [.lit (.int .i64 n), .lit (.int .i64 d)], [])
    | _ => none
  | _ => none
theorem fracR_mk (n d : Int) : fracR (.agg #[.int .i64 n, .int .i64 d]) = some (.agg [.lit (.int .i64 n), .lit (.int .i64 d)], []) := rfl
theorem fracR_inv {v : Value} {y : DataW Unit × List MemPlace} (h : fracR v = some y) : ∃ n d, v = .agg #[.int .i64 n, .int .i64 d] ∧ y = (.agg [.lit (.int .i64 n), .lit (.int .i64 d)], []) := by
  unfold fracR at h
  split at h
  · rename_i vs
    split at h
    · rename_i n d he
      cases h
      refine ⟨n, d, ?_, rfl⟩
      congr 1
      exact Array.toList_inj.1 he
    · cases h
  · cases h
def encF (o : Option (Int × Int)) : DataW Unit := match o with | none => .nil | some (n, d) => .agg [.lit (.int .i64 n), .lit (.int .i64 d)]
theorem encF_none {o : Option (Int × Int)} (h : encF o = .nil) : o = none := by
  cases o with
  | none => rfl
  | some p => cases h
theorem encF_some {o : Option (Int × Int)} {n d : Int} (h : encF o = .agg [.lit (.int .i64 n), .lit (.int .i64 d)]) : o = some (n, d) := by
  cases o with
  | none => cases h
  | some p =>
    obtain ⟨a, b⟩ := p
    simp only [encF, DataW.agg.injEq, List.cons.injEq, DataW.lit.injEq, Lit.int.injEq, true_and, and_true] at h
    rw [h.1, h.2]

theorem keyS : Maps.Keyed Try.prog 9 := Maps.string_keyed Try.underlying9
/-- block b is a map of at most n entries that holds f -/
def MapV (w : World) (b n : Nat) (f : ByteArray → Option (Int × Int)) : Prop :=
  ∃ D : DataW Unit, w.ownsMap Try.prog 9 fracR b n D ∧ ∀ s, D.atKey (.string s.data.toList) .nil = encF (f s)
theorem MapV.made (w : World) : MapV (w.alloc (.map #[] 0)) w.heap.size 0 (fun _ => none) := ⟨_, World.ownsMap_made w _ _ _, fun _ => rfl⟩
theorem MapV.lt {w : World} {b n : Nat} {f : ByteArray → Option (Int × Int)} (h : MapV w b n f) : b < w.heap.size := by obtain ⟨D, h, _⟩ := h; exact h.lt
theorem MapV.grown {w w' : World} {b n : Nat} {f : ByteArray → Option (Int × Int)} {r : Option Nat} (h : MapV w b n f) (hg : w.grownBy w' r) (hne : some b ≠ r) : MapV w' b n f := by
  obtain ⟨D, h, hf⟩ := h
  exact ⟨D, h.kept hg hne, hf⟩
theorem MapV.alloc {w : World} {b n : Nat} {f : ByteArray → Option (Int × Int)} (h : MapV w b n f) (o : Obj) : MapV (w.alloc o) b n f := by
  obtain ⟨D, h, hf⟩ := h
  exact ⟨D, h.alloc o, hf⟩
theorem MapV.below {w w' : World} {B b n : Nat} {f : ByteArray → Option (Int × Int)} (h : MapV w b n f) (hb : Below B w w') (hlt : b < B) : MapV w' b n f := by
  obtain ⟨D, ⟨es, clock, hh, rest⟩, hf⟩ := h
  exact ⟨D, ⟨es, clock, (hb.block b hlt).trans hh, rest⟩, hf⟩
theorem MapV.congr {w : World} {b n : Nat} {f g : ByteArray → Option (Int × Int)} (h : MapV w b n f) (e : ∀ s, f s = g s) : MapV w b n g := by
  obtain ⟨D, h, hf⟩ := h
  exact ⟨D, h, fun s => by rw [hf, e]⟩
theorem MapV.mono {w : World} {b n n' : Nat} {f : ByteArray → Option (Int × Int)} (h : MapV w b n f) (hn : n ≤ n') : MapV w b n' f := by
  obtain ⟨D, h, hf⟩ := h
  exact ⟨D, h.mono hn, hf⟩

/-- f, changed at one word -/
def setF (f : ByteArray → Option (Int × Int)) (s : ByteArray) (o : Option (Int × Int)) : ByteArray → Option (Int × Int) := fun t => if t = s then o else f t
def lookV (o : Option (Int × Int)) : Value := match o with | none => .tuple #[.agg #[.int .i64 0, .int .i64 0], .bool false] | some (n, d) => .tuple #[.agg #[.int .i64 n, .int .i64 d], .bool true]

section
variable {w : World} {b n : Nat} {f : ByteArray → Option (Int × Int)}
end

section
variable {ops : Array Oper} {rest : List Oper} {o : Oper} {a : Act} {w : World} {Q : Exit → Act → World → Prop} {b n : Nat} {f : ByteArray → Option (Int × Int)}
end
end Go.Proofs.Ytolbgdgoambliaa

namespace Go.Proofs.Ytolbgdgoambliaa

/-- one term's share: nothing where the other series has no value -/
def pairStep (ys : List Tm) (acc : Int × Int) (t : Tm) : Option (Int × Int) :=
  if (valL t.s.data.toList ys).1 = 0 then some acc else
  if fOk (t.n * (valL t.s.data.toList ys).1) (t.d * (valL t.s.data.toList ys).2) then
    (if fOk (acc.1 * fD (t.n * (valL t.s.data.toList ys).1) (t.d * (valL t.s.data.toList ys).2) + fN (t.n * (valL t.s.data.toList ys).1) (t.d * (valL t.s.data.toList ys).2) * acc.2) (acc.2 * fD (t.n * (valL t.s.data.toList ys).1) (t.d * (valL t.s.data.toList ys).2)) then
      some (fN (acc.1 * fD (t.n * (valL t.s.data.toList ys).1) (t.d * (valL t.s.data.toList ys).2) + fN (t.n * (valL t.s.data.toList ys).1) (t.d * (valL t.s.data.toList ys).2) * acc.2) (acc.2 * fD (t.n * (valL t.s.data.toList ys).1) (t.d * (valL t.s.data.toList ys).2)),
        fD (acc.1 * fD (t.n * (valL t.s.data.toList ys).1) (t.d * (valL t.s.data.toList ys).2) + fN (t.n * (valL t.s.data.toList ys).1) (t.d * (valL t.s.data.toList ys).2) * acc.2) (acc.2 * fD (t.n * (valL t.s.data.toList ys).1) (t.d * (valL t.s.data.toList ys).2)))
    else none)
  else none
def pairL (ys : List Tm) : List Tm → Int × Int → Option (Int × Int)
  | [], acc => some acc
  | t :: r, acc => match pairStep ys acc t with
    | none => none
    | some a => pairL ys r a
theorem fOk_isFp {n d : Int} (h : fOk n d = true) : isF (fN n d) (fD n d) = true := by
  have h2 : lowOk n d = true := by
    unfold fOk at h
    rw [Bool.and_eq_true] at h
    exact h.2
  unfold fN fD
  rw [if_pos h, if_pos h]
  exact h2
theorem pair_skip {ys : List Tm} {acc : Int × Int} {t : Tm} {p q : Int} (hv : valL t.s.data.toList ys = (p, q)) (h : p = 0) : pairStep ys acc t = some acc := by
  unfold pairStep
  rw [hv]
  simp [h]
theorem pair_bad1 {ys : List Tm} {acc : Int × Int} {t : Tm} {p q : Int} (hv : valL t.s.data.toList ys = (p, q)) (h : p ≠ 0) (h1 : fOk (t.n * p) (t.d * q) = false) : pairStep ys acc t = none := by
  unfold pairStep
  rw [hv]
  simp [h, h1]
theorem pair_bad2 {ys : List Tm} {a b : Int} {t : Tm} {p q x y : Int} (hv : valL t.s.data.toList ys = (p, q)) (h : p ≠ 0) (h1 : fOk (t.n * p) (t.d * q) = true) (hx : fN (t.n * p) (t.d * q) = x) (hy : fD (t.n * p) (t.d * q) = y)
    (h2 : fOk (a * y + x * b) (b * y) = false) : pairStep ys (a, b) t = none := by
  unfold pairStep
  rw [hv]
  simp only
  rw [if_neg h, if_pos h1, hx, hy, if_neg (by rw [h2]; simp)]
theorem pair_good {ys : List Tm} {a b : Int} {t : Tm} {p q x y : Int} (hv : valL t.s.data.toList ys = (p, q)) (h : p ≠ 0) (h1 : fOk (t.n * p) (t.d * q) = true) (hx : fN (t.n * p) (t.d * q) = x) (hy : fD (t.n * p) (t.d * q) = y)
    (h2 : fOk (a * y + x * b) (b * y) = true) : pairStep ys (a, b) t = some (fN (a * y + x * b) (b * y), fD (a * y + x * b) (b * y)) := by
  unfold pairStep
  rw [hv]
  simp only
  rw [if_neg h, if_pos h1, hx, hy, if_pos h2]
theorem pair_next {ys xs : List Tm} {k : Nat} (hk : k < xs.length) (acc : Int × Int) : pairL ys (xs.drop k) acc = match pairStep ys acc xs[k] with
    | none => none
    | some a => pairL ys (xs.drop (k + 1)) a := by
  rw [List.drop_eq_getElem_cons hk]
  rfl
/-- what a series holds in a map: its first k terms -/
def valV (ts : List Tm) : Nat → ByteArray → Option (Int × Int)
  | 0 => fun _ => none
  | k + 1 => if h : k < ts.length then setF (valV ts k) (ts[k]).s (some ((ts[k]).n, (ts[k]).d)) else valV ts k
theorem valV_succ {ts : List Tm} {k : Nat} (h : k < ts.length) : valV ts (k + 1) = setF (valV ts k) (ts[k]).s (some ((ts[k]).n, (ts[k]).d)) := by
  show (if h : k < ts.length then _ else _) = _
  rw [dif_pos h]
theorem valV_over {ts : List Tm} {k : Nat} (h : ¬ k < ts.length) : valV ts (k + 1) = valV ts k := by
  show (if h : k < ts.length then _ else _) = _
  rw [dif_neg h]
theorem valV_none {ts : List Tm} {s : ByteArray} : ∀ (k : Nat), (∀ i (h : i < ts.length), i < k → (ts[i]).s ≠ s) → valV ts k s = none
  | 0, _ => rfl
  | k + 1, hn => by
    by_cases h : k < ts.length
    · rw [valV_succ h]
      unfold setF
      rw [if_neg (fun e => hn k h (by omega) e.symm)]
      exact valV_none k (fun i hi hik => hn i hi (by omega))
    · rw [valV_over h]
      exact valV_none k (fun i hi hik => hn i hi (by omega))
theorem valV_at {ts : List Tm} (hd : ts.Pairwise (fun a b => a.s ≠ b.s)) {i : Nat} (hi : i < ts.length) : ∀ (k : Nat), i < k → valV ts k (ts[i]).s = some ((ts[i]).n, (ts[i]).d)
  | 0, h => by omega
  | k + 1, h => by
    by_cases hk : k < ts.length
    · rw [valV_succ hk]
      unfold setF
      by_cases e : i = k
      · subst e; rw [if_pos rfl]
      · have hne : (ts[i]).s ≠ (ts[k]).s := List.pairwise_iff_getElem.1 hd i k hi hk (by omega)
        rw [if_neg hne]
        exact valV_at hd hi k (by omega)
    · rw [valV_over hk]
      exact valV_at hd hi k (by omega)
/-- the map's answer and the search's -/
theorem valV_valL {ts : List Tm} (hd : ts.Pairwise (fun a b => a.s ≠ b.s)) (hn : ∀ t ∈ ts, t.n ≠ 0) (s : ByteArray) :
    (valV ts ts.length s = none ∧ valL s.data.toList ts = (0, 1)) ∨ (∃ t ∈ ts, valV ts ts.length s = some (t.n, t.d) ∧ valL s.data.toList ts = (t.n, t.d) ∧ t.n ≠ 0) := by
  by_cases h : ∃ i, ∃ (hi : i < ts.length), (ts[i]).s = s
  · obtain ⟨i, hi, rfl⟩ := h
    refine .inr ⟨ts[i], List.getElem_mem hi, valV_at hd hi _ hi, valL_at ts i hi (fun j hj hji => ?_) rfl, hn _ (List.getElem_mem hi)⟩
    exact fun e => List.pairwise_iff_getElem.1 hd j i hj hi hji (data_eq e)
  · refine .inl ⟨valV_none _ (fun i hi _ e => h ⟨i, hi, e⟩), valL_none ts (fun j hj e => h ⟨j, hj, data_eq e⟩)⟩
end Go.Proofs.Ytolbgdgoambliaa
