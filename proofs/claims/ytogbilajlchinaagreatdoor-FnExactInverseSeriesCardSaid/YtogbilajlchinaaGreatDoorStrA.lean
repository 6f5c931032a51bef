/-
  Rows of words (slices of strings) in memory: read, owned, compared, marked.
  append onto a row of words of the call's own.
-/
import Derived.Test.YtogbilajlchinaaGreatDoorMark
import Derived.Test.YtogbilajlchinaaGreatDoorOwn
import Derived.Deep.AppendLies
import Derived.Deep.RegionLaw
import Derived.WalkSpells
import Derived.StillTailTactics
import Derived.OwnWalk
import Derived.Laws.Pointers
import Derived.IntWalk
import Derived.Laws.BytesArg
namespace Go.Proofs.YtogbilajlchinaaGreatDoor
open Go.RowKit

/-- words in a row of cells of block `b` from `off` on -/
def StrsIn (w : World) (b off : Nat) (ss : List ByteArray) : Prop := ∀ i (h : i < ss.length), w.cell? ⟨b, off + i, none⟩ = some (.string ss[i])
theorem StrsIn.below {w w' : World} {B b off : Nat} {ss : List ByteArray} (h : StrsIn w b off ss) (hb : Below B w w') (hlt : b < B) : StrsIn w' b off ss := fun i hi =>
  (hb.cell (p := ⟨b, _, none⟩) hlt).trans (h i hi)
theorem StrsIn.grown {w w' : World} {b off : Nat} {ss : List ByteArray} {r : Option Nat} (h : StrsIn w b off ss) (hg : w.grownBy w' r) (hlt : b < w.heap.size) (hne : some b ≠ r) : StrsIn w' b off ss := fun i hi =>
  (World.cell?_of_block (a := ⟨b, _, none⟩) (hg.block b hlt hne)).trans (h i hi)
theorem StrsIn.setCell {w : World} {g off : Nat} {ss : List ByteArray} (h : StrsIn w g off ss) {p : Addr} (hp : p.block ≠ g) (u : Value) : StrsIn (w.setCell p u) g off ss := fun i hi =>
  (World.cell?_setCell_far _ _ _ _ hp).trans (h i hi)

/-- a row of words, or none -/
def SRow (w : World) (a : Option Addr) (ss : List ByteArray) : Prop := ss = [] ∨ ∃ b off, a = some ⟨b, off, none⟩ ∧ b < w.heap.size ∧ StrsIn w b off ss
theorem SRow.below {w w' : World} {B : Nat} {a : Option Addr} {ss : List ByteArray} (h : SRow w a ss) (hb : Below B w w') (hB : w.heap.size ≤ B) : SRow w' a ss := by
  rcases h with h | ⟨b, off, h1, h2, h3⟩
  · exact .inl h
  · exact .inr ⟨b, off, h1, Nat.lt_of_lt_of_le h2 hb.size, h3.below hb (by omega)⟩
/-- a row of words within bounds of blocks -/
def SRowB (hi : Nat) (w : World) (a : Option Addr) (ss : List ByteArray) : Prop := ss = [] ∨ ∃ b off, a = some ⟨b, off, none⟩ ∧ b < hi ∧ StrsIn w b off ss
theorem SRowB.row {hi : Nat} {w : World} {a : Option Addr} {ss : List ByteArray} (h : SRowB hi w a ss) (hh : hi ≤ w.heap.size) : SRow w a ss := by
  rcases h with h | ⟨b, off, h1, h2, h3⟩
  · exact .inl h
  · exact .inr ⟨b, off, h1, by omega, h3⟩
theorem SRowB.below {hi B : Nat} {w w' : World} {a : Option Addr} {ss : List ByteArray} (h : SRowB hi w a ss) (hb : Below B w w') (hh : hi ≤ B) : SRowB hi w' a ss := by
  rcases h with h | ⟨b, off, h1, h2, h3⟩
  · exact .inl h
  · exact .inr ⟨b, off, h1, h2, h3.below hb (by omega)⟩
theorem SRowB.grown {hi : Nat} {w w' : World} {a : Option Addr} {ss : List ByteArray} {r : Option Nat} (h : SRowB hi w a ss) (hg : w.grownBy w' r) (hh : hi ≤ w.heap.size) (hr : ∀ g, r = some g → hi ≤ g) : SRowB hi w' a ss := by
  rcases h with h | ⟨b, off, h1, h2, h3⟩
  · exact .inl h
  · exact .inr ⟨b, off, h1, h2, h3.grown hg (by omega) (fun e => by have := hr b e.symm; omega)⟩
/-- a new row of words within bounds, which may be written -/
def NewS (lo hi : Nat) (w : World) (a : Option Addr) (ss : List ByteArray) : Prop := ss = [] ∨ ∃ g, a = some ⟨g, 0, none⟩ ∧ lo ≤ g ∧ g < hi ∧ Made w g ss.length ∧ StrsIn w g 0 ss
theorem NewS.rowB {lo hi : Nat} {w : World} {a : Option Addr} {ss : List ByteArray} (h : NewS lo hi w a ss) : SRowB hi w a ss := by
  rcases h with h | ⟨g, h1, h2, h3, h4, h5⟩
  · exact .inl h
  · exact .inr ⟨g, 0, h1, h3, h5⟩
theorem NewS.row {lo hi : Nat} {w : World} {a : Option Addr} {ss : List ByteArray} (h : NewS lo hi w a ss) : SRow w a ss := by
  rcases h with h | ⟨g, h1, h2, h3, h4, h5⟩
  · exact .inl h
  · exact .inr ⟨g, 0, h1, h4.1, h5⟩
theorem NewS.mono {lo hi lo' hi' : Nat} {w : World} {a : Option Addr} {ss : List ByteArray} (h : NewS lo hi w a ss) (h1 : lo' ≤ lo) (h2 : hi ≤ hi') : NewS lo' hi' w a ss := by
  rcases h with h | ⟨g, e, a1, a2, a3, a4⟩
  · exact .inl h
  · exact .inr ⟨g, e, by omega, by omega, a3, a4⟩
theorem NewS.below {lo hi B : Nat} {w w' : World} {a : Option Addr} {ss : List ByteArray} (h : NewS lo hi w a ss) (hb : Below B w w') (hh : hi ≤ B) : NewS lo hi w' a ss := by
  rcases h with h | ⟨g, h1, h2, h3, h4, h5⟩
  · exact .inl h
  · exact .inr ⟨g, h1, h2, h3, h4.below hb (by omega), h5.below hb (by omega)⟩

def cellsS (ss : List ByteArray) : List Value := ss.map Value.string
/-- the value owns the words, in a row from the block `base` on -/
def OwnS (w : World) (base : Nat) (v : Value) (ss : List ByteArray) : Prop := w.ownsRow base 9 1 v ss.length (cellsS ss)
theorem OwnS.nil (w : World) (base : Nat) : OwnS w base (.slice none 0 0) [] := World.ownsRow_nil w base _ 1
theorem OwnS.newS {w : World} {base : Nat} {v : Value} {ss : List ByteArray} (h : OwnS w base v ss) : ∃ a cap, v = .slice a ss.length cap ∧ ss.length ≤ cap ∧ NewS base w.heap.size w a ss := by
  rcases h.2 with ⟨rfl, h0⟩ | ⟨g, cap, cur, rfl, hbg, hg, hnc, hcm, hcs, htake⟩
  · have e : ss = [] := List.eq_nil_of_length_eq_zero h0
    subst e
    exact ⟨none, 0, rfl, Nat.le_refl _, .inl rfl⟩
  · have hlt : g < w.heap.size := by
      rcases Nat.lt_or_ge g w.heap.size with hlt | hge
      · exact hlt
      · rw [Array.getElem?_eq_none hge] at hg; cases hg
    have hcell : ∀ j, w.cell? ⟨g, j, none⟩ = cur[j]? := fun j => cell_of_row w g j cur _ (0, 0) hg
    have hsz : ss.length ≤ cur.size := by rw [hcs]; omega
    have hat : ∀ j, j < ss.length → cur[j]? = (cellsS ss)[j]? := fun j hj => by
      rw [← htake, List.getElem?_take, if_pos (by omega)]; simp
    refine ⟨some ⟨g, 0, none⟩, cap, rfl, hnc, .inr ⟨g, rfl, hbg, hlt, ⟨hlt, fun j hj => ⟨?_, ?_⟩⟩, fun i hi => ?_⟩⟩
    · exact ⟨cur[j]'(by omega), by rw [hcell]; exact Array.getElem?_eq_getElem (by omega)⟩
    · simp [World.frozen?, hg]
    · rw [hcell, Nat.zero_add, hat i hi]
      simp [cellsS]
theorem OwnS.below {B base : Nat} {w w' : World} {v : Value} {ss : List ByteArray} (h : OwnS w base v ss) (hb : Below B w w') (hv : ∀ g, v.ownBlock = some g → g < B) : OwnS w' base v ss := by
  rcases h with ⟨hl, h⟩
  refine ⟨hl, ?_⟩
  rcases h with h | ⟨g, cap, cur, rfl, hbg, hg, rest⟩
  · exact .inl h
  · exact .inr ⟨g, cap, cur, rfl, hbg, by rw [hb.block g (hv g rfl)]; exact hg, rest⟩
theorem OwnS.lt {base : Nat} {w : World} {v : Value} {ss : List ByteArray} (h : OwnS w base v ss) : ∀ g, v.ownBlock = some g → base ≤ g ∧ g < w.heap.size := fun g hv => by
  rcases h.2 with ⟨rfl, h0⟩ | ⟨g', cap, cur, rfl, hbg, hg, hnc, hcm, hcs, htake⟩
  · simp [Value.ownBlock] at hv
  · have e : g' = g := by simpa [Value.ownBlock] using hv
    subst e
    refine ⟨hbg, ?_⟩
    rcases Nat.lt_or_ge g' w.heap.size with hlt | hge
    · exact hlt
    · rw [Array.getElem?_eq_none hge] at hg; cases hg
theorem OwnS.far {base : Nat} {w : World} {v : Value} {ss : List ByteArray} (h : OwnS w base v ss) {p : Addr} (hp : v.ownBlock ≠ some p.block) (u : Value) : OwnS (w.setCell p u) base v ss := by
  rcases h with ⟨hl, h⟩
  refine ⟨hl, ?_⟩
  rcases h with h | ⟨g, cap, cur, rfl, hbg, hg, rest⟩
  · exact .inl h
  · refine .inr ⟨g, cap, cur, rfl, hbg, ?_, rest⟩
    rw [Below.heap_setCell w p u g (fun e => hp (by rw [← e]; rfl))]; exact hg
theorem OwnS.alloc {base : Nat} {w : World} {v : Value} {ss : List ByteArray} (h : OwnS w base v ss) (o : Obj) : OwnS (w.alloc o) base v ss :=
  h.below (below1 w o) (fun g hg => (h.lt g hg).2)
theorem OwnS.emptyRow {w : World} {base g : Nat} (h : w.heap[g]? = some (.cells #[] 9 (0, 0))) (hb : base ≤ g) : OwnS w base (.slice (some ⟨g, 0, none⟩) 0 0) [] :=
  ⟨rfl, .inr ⟨g, 0, #[], rfl, hb, h, Nat.le_refl _, Nat.zero_le _, rfl, rfl⟩⟩
theorem OwnS.mono {w : World} {base base' : Nat} {v : Value} {ss : List ByteArray} (h : OwnS w base v ss) (hb : base' ≤ base) : OwnS w base' v ss := by
  rcases h with ⟨hl, h | ⟨g, cap, cur, rfl, hbg, rest⟩⟩
  · exact ⟨hl, .inl h⟩
  · exact ⟨hl, .inr ⟨g, cap, cur, rfl, Nat.le_trans hb hbg, rest⟩⟩
theorem cellsS_oneCell (ss : List ByteArray) : ∀ u ∈ cellsS ss, u.oneCell' = true := fun u hu => by
  unfold cellsS at hu
  obtain ⟨t, _, rfl⟩ := List.mem_map.1 hu
  rfl
theorem cellsS_append (xs ys : List ByteArray) : cellsS (xs ++ ys) = cellsS xs ++ cellsS ys := by simp [cellsS]
theorem info_string : (Tryz.prog.info? 9).map (fun i => (i.zero, i.size, i.bytes)) = some (some (.string ByteArray.empty), 1, 16) := by kernel_rfl

/-- the words that marking leaves, from the number `k` on -/
def markedS (k : Int) : List ByteArray → List ByteArray
  | [] => []
  | _ :: r => mkT k :: markedS (k + 1) r
theorem markedS_length : ∀ (k : Int) (ss : List ByteArray), (markedS k ss).length = ss.length
  | _, [] => rfl
  | k, _ :: r => by simp [markedS, markedS_length (k + 1) r]
theorem markedS_get : ∀ (k : Int) (ss : List ByteArray) (i : Nat) (h : i < (markedS k ss).length), (markedS k ss)[i] = mkT (k + i)
  | _, [], i, h => by simp [markedS] at h
  | k, _ :: r, 0, _ => by simp [markedS]
  | k, _ :: r, i + 1, h => by
    have hi : i < (markedS (k + 1) r).length := by simpa [markedS] using h
    have e := markedS_get (k + 1) r i hi
    have e2 : k + 1 + (i : Int) = k + ((i + 1 : Nat) : Int) := by omega
    rw [e2] at e
    simpa [markedS] using e
theorem StrsIn.snoc {w : World} {g k : Nat} {ss : List ByteArray} (hk : k < ss.length) (h : StrsIn w g 0 (ss.take k)) (hm : Made w g ss.length) {s : ByteArray} (hs : ss[k] = s) : StrsIn (w.setCell ⟨g, k, none⟩ (.string s)) g 0 (ss.take (k + 1)) := by
  intro i hi
  have hi' : i < k + 1 := by rw [List.length_take] at hi; omega
  rw [List.getElem_take]
  simp only [Nat.zero_add]
  by_cases hik : i < k
  · have h0 := h i (by rw [List.length_take]; omega)
    rw [List.getElem_take] at h0
    simp only [Nat.zero_add] at h0
    rw [World.cell?_setCell_other _ _ _ _ (fun e => by injection e with _ e2; omega)]; exact h0
  · obtain rfl : i = k := by omega
    obtain ⟨⟨v0, m0⟩, -⟩ := hm.2 i hk
    rw [hs]
    exact World.cell?_setCell_same _ _ _ m0

/-- what marking comes to: at most one block within the bounds has changed -/
def MarkSR (lo hi : Nat) (a : Option Addr) (ss' : List ByteArray) (k' : Int) (W : World) (e : Ending) (w' : World) : Prop :=
  ∃ r : Option Nat, e = .returned (.int .i64 k') ∧ W.grownBy w' r ∧ (∀ g, r = some g → lo ≤ g ∧ g < hi) ∧ NewS lo hi w' a ss'

end Go.Proofs.YtogbilajlchinaaGreatDoor

namespace Go.Proofs.YtogbilajlchinaaGreatDoor
open Go.RowKit

theorem strs_news {w : World} {b off : Nat} {ss : List ByteArray} (h : StrsIn w b off ss) : ∀ j u, (cellsS ss)[j]? = some u → w.cell? ((⟨b, off, none⟩ : Addr).add j) = some u := fun j u hu => by
  have hj : j < ss.length := by have := (List.getElem?_eq_some_iff.1 hu).1; simpa [cellsS] using this
  rw [add_at, h j hj]
  simp only [cellsS, List.getElem?_map, List.getElem?_eq_getElem hj, Option.map_some, Option.some.injEq] at hu
  rw [hu]

set_option maxRecDepth 100000 in
theorem run_append_strs (w : World) (ty : TypeId) (base : Nat) (v : Value) (n : Nat) (xs ys : List ByteArray) (hn : n = xs.length) (hown : OwnS w base v xs) (A : Option Addr) (m c : Nat) (hm : m = ys.length)
    (hsrc : m = 0 ∨ ∃ b off, A = some ⟨b, off, none⟩ ∧ StrsIn w b off ys) (hbig : n + m ≤ 4194304) (hbase : base ≤ w.heap.size) :
    ∃ a' c' w', (Builtin.append_ #[54, 54] ty #[v, .slice A m c]).run Tryz.prog w = .ok (.slice a' (n + m) c') w' ∧ OwnS w' base (.slice a' (n + m) c') (xs ++ ys) ∧ w.grownBy w' v.ownBlock ∧
      ((Value.slice a' (n + m) c').ownBlock = v.ownBlock ∨ (Value.slice a' (n + m) c').ownBlock = some w.heap.size) := by
  obtain ⟨i0, hi0, hi1, hi2, hi3⟩ := info_parts info_string
  subst hn hm
  have hform : ∀ (W : World) (u : Value) (zs : List ByteArray), OwnS W base u zs → ∃ a' c', u = .slice a' zs.length c' := fun W u zs h => by
    obtain ⟨a', c', h1, _, _⟩ := h.newS
    exact ⟨a', c', h1⟩
  rcases A with _ | ad
  · have h0 : ys = [] := by
      rcases hsrc with h | ⟨b, off, h, _⟩
      · exact List.eq_nil_of_length_eq_zero h
      · cases h
    subst h0
    obtain ⟨a', c', rfl⟩ := hform _ _ _ hown
    refine ⟨a', c', w, ?_, by simpa using hown, World.grownBy.refl w _, .inl rfl⟩
    rcases hown.2 with ⟨h1, h2⟩ | ⟨g, cap, cur, h1, _, _, hnc, _⟩
    · injection h1 with e1 e2 e3
      subst e1 e3
      simp [Builtin.append_, run_underlying Tryz.underlying54, sizeOf, typeInfo, hi0, Builtin.lenOf, Builtin.firstCells, h2]
    · injection h1 with e1 e2 e3
      subst e1 e3
      simp [Builtin.append_, run_underlying Tryz.underlying54, sizeOf, typeInfo, hi0, Builtin.lenOf, Builtin.firstCells, hnc, storeCells]
  · have hnews : ∀ j u, (cellsS ys)[j]? = some u → w.cell? (ad.add j) = some u := fun j u hu => by
      rcases hsrc with h | ⟨b, off, h, ht⟩
      · have e : ys = [] := List.eq_nil_of_length_eq_zero h
        subst e
        simp [cellsS] at hu
      · cases h
        exact strs_news ht j u hu
    obtain ⟨v', w', hr, h2, h3, _, h5⟩ := run_append_own_at (P := Tryz.prog) w base 54 ty 9 i0 _ 1 16 Tryz.underlying54 hi0 hi1 hi2 hi3 rfl (by omega) v xs.length (cellsS xs) hown ad ys.length c (cellsS ys) (by simp [cellsS]) hnews (cellsS_oneCell ys) (by unfold maxLen; omega) (by omega) hbase
    have hO : OwnS w' base v' (xs ++ ys) := by
      unfold OwnS
      rw [List.length_append, cellsS_append]
      exact h2
    obtain ⟨a', c', rfl⟩ := hform _ _ _ hO
    rw [List.length_append] at hr hO h5
    exact ⟨a', c', w', hr, hO, h3, h5⟩

theorem wpList_append_strs {ops : Array Oper} {rest : List Oper} {o : Oper} {a : Act} {w : World} {Q : Exit → Act → World → Prop} (hgd : o.guard = none) (s x : Operand)
    (ho : o.op = .call { callee := .builtin .append, args := #[s, x], argTypes := #[54, 54] })
    (base : Nat) (v : Value) (n : Nat) (xs ys : List ByteArray) (hs : a.eval s = v) (hn : n = xs.length) (hown : OwnS w base v xs) (A : Option Addr) (m c : Nat) (hx : a.eval x = .slice A m c) (hm : m = ys.length)
    (hsrc : m = 0 ∨ ∃ b off, A = some ⟨b, off, none⟩ ∧ StrsIn w b off ys) (hbig : n + m ≤ 4194304) (hbase : base ≤ w.heap.size)
    (h : ∀ a' c' w', OwnS w' base (.slice a' (n + m) c') (xs ++ ys) → w.grownBy w' v.ownBlock → ((Value.slice a' (n + m) c').ownBlock = v.ownBlock ∨ (Value.slice a' (n + m) c').ownBlock = some w.heap.size) → wpList Tryz.prog ops Q rest (a.put o.dst (.slice a' (n + m) c')) w') :
    wpList Tryz.prog ops Q (o :: rest) a w := by
  refine wpList_plain hgd fun K hK => ?_
  obtain ⟨a', c', w', hr, h2, h3, h4⟩ := run_append_strs w o.type base v n xs ys hn hown A m c hm hsrc hbig hbase
  unfold Oper.wp execOp
  simp only [ho, resolve, invoke, builtin, Sem.run_bind, Sem.run_pure, Result.andThen_ok, List.map_toArray, List.map_cons, List.map_nil, hs, hx, hr]
  exact hK _ _ (h a' c' w' h2 h3 h4)

theorem strs_one (w : World) (s : ByteArray) : StrsIn (w.alloc (.cells #[.string s] 9)) w.heap.size 0 [s] := fun i hi => by
  have h0 : i = 0 := by simpa using hi
  subst h0
  simp [go_sem]
theorem OwnS.one (w : World) (s : ByteArray) : OwnS (w.alloc (.cells #[.string s] 9)) w.heap.size (.slice (some ⟨w.heap.size, 0, none⟩) 1 1) [s] :=
  ⟨rfl, .inr ⟨w.heap.size, 1, #[.string s], rfl, Nat.le_refl _, heap_alloc_new w _, Nat.le_refl _, by unfold maxLen; omega, rfl, rfl⟩⟩
theorem own_grownS {B : Nat} {w w' : World} {v : Value} {ss : List ByteArray} (hO : OwnS w B v ss) (hg : w.grownBy w' v.ownBlock) (hB : B ≤ w.heap.size) : Below B w w' := below_of_grown hg (fun g h => (hO.lt g h).1) hB
/-- a row that the call owns stands aside while another value's row grows -/
theorem SRowB.aside {B : Nat} {w w' : World} {a : Option Addr} {v : Value} {ss zs : List ByteArray} (h : SRowB B w a ss) (hO : OwnS w B v zs) (hg : w.grownBy w' v.ownBlock) (hB : B ≤ w.heap.size) : SRowB B w' a ss :=
  h.grown hg hB (fun g e => (hO.lt g e).1)

/-- a byte, as a text -/
theorem conv_letter (x : Int) (W : World) (g : Nat) (hc : W.cell? ⟨g, 0, none⟩ = some (.int .u8 x)) :
    (convert 139 9 (.slice (some ⟨g, 0, none⟩) 1 1)).run Tryz.prog W = .ok (.string ⟨#[UInt8.ofNat x.toNat]⟩) W := by
  have h := run_convert_bytes_arg (P := Tryz.prog) W 139 5 Tryz.underlying139 Tryz.underlying5 g 0 1 1 [x] rfl (fun i hi => by
    obtain rfl : i = 0 := by omega
    simpa using hc) 9 Tryz.underlying9
  rw [h]
  rfl
end Go.Proofs.YtogbilajlchinaaGreatDoor
