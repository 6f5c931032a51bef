/-
  Rows of bytes of the call's own: append, the last byte raised, the row cut.
-/
import Derived.Test.YtolbgdgoambliaaSer
import Derived.Test.YtolbgdgoambliaaPartOf
import Derived.Test.YtolbgdgoambliaaEndOf
import Derived.IntWalk
import Derived.Deep.RegionLaw
import Derived.WalkSpells
import Derived.OwnWalk
import Derived.Laws.Pointers
import Derived.Lib.AppendZerosOnto
import Derived.Lib.Walk
namespace Go.Proofs.Ytolbgdgoambliaa
open Go.RowKit

def BysIn (w : World) (b off : Nat) (zs : List Int) : Prop := ∀ i (h : i < zs.length), w.cell? ⟨b, off + i, none⟩ = some (.int .u8 zs[i])
theorem BysIn.below {w w' : World} {B b off : Nat} {zs : List Int} (h : BysIn w b off zs) (hb : Below B w w') (hlt : b < B) : BysIn w' b off zs := fun i hi =>
  (hb.cell (p := ⟨b, _, none⟩) hlt).trans (h i hi)
theorem BysIn.setCell {w : World} {g off : Nat} {zs : List Int} (h : BysIn w g off zs) {p : Addr} (hp : p.block ≠ g) (u : Value) : BysIn (w.setCell p u) g off zs := fun i hi =>
  (World.cell?_setCell_far _ _ _ _ hp).trans (h i hi)
def NewY (lo hi : Nat) (w : World) (a : Option Addr) (zs : List Int) : Prop := zs = [] ∨ ∃ g, a = some ⟨g, 0, none⟩ ∧ lo ≤ g ∧ g < hi ∧ Made w g zs.length ∧ BysIn w g 0 zs
theorem NewY.mono {lo hi lo' hi' : Nat} {w : World} {a : Option Addr} {zs : List Int} (h : NewY lo hi w a zs) (h1 : lo' ≤ lo) (h2 : hi ≤ hi') : NewY lo' hi' w a zs := by
  rcases h with h | ⟨g, e, a1, a2, a3, a4⟩
  · exact .inl h
  · exact .inr ⟨g, e, by omega, by omega, a3, a4⟩
theorem NewY.below {lo hi B : Nat} {w w' : World} {a : Option Addr} {zs : List Int} (h : NewY lo hi w a zs) (hb : Below B w w') (hh : hi ≤ B) : NewY lo hi w' a zs := by
  rcases h with h | ⟨g, e, a1, a2, a3, a4⟩
  · exact .inl h
  · exact .inr ⟨g, e, a1, a2, a3.below hb (by omega), a4.below hb (by omega)⟩
theorem info_uint8 : (Try.prog.info? 5).map (fun i => (i.zero, i.size, i.bytes)) = some (some (.int .u8 0), 1, 1) := by kernel_rfl
def cellsY (ss : List Int) : List Value := ss.map (Value.int .u8)
/-- the value owns the words, in a row from the block `base` on -/
def OwnY (w : World) (base : Nat) (v : Value) (ss : List Int) : Prop := w.ownsRow base 5 1 v ss.length (cellsY ss)
theorem OwnY.nil (w : World) (base : Nat) : OwnY w base (.slice none 0 0) [] := World.ownsRow_nil w base _ 1
theorem OwnY.newY {w : World} {base : Nat} {v : Value} {ss : List Int} (h : OwnY w base v ss) : ∃ a cap, v = .slice a ss.length cap ∧ ss.length ≤ cap ∧ NewY base w.heap.size w a ss := by
  rcases h.2 with ⟨rfl, h0⟩ | ⟨g, cap, cur, rfl, hbg, hg, hnc, hcm, hcs, htake⟩
  · have e : ss = [] := List.eq_nil_of_length_eq_zero h0
    subst e
    exact ⟨none, 0, rfl, Nat.le_refl _, .inl rfl⟩
  · have hlt : g < w.heap.size := by
      rcases Nat.lt_or_ge g w.heap.size with hlt | hge
      · exact hlt
      · rw [Array.getElem?_eq_none hge] at hg; cases hg
    have hcell : ∀ j, w.cell? ⟨g, j, none⟩ = cur[j]? := fun j => cell_of_row w g j cur _ (0, 0) hg
    have hsz : ss.length ≤ cur.size := by rw [hcs]; omega
    have hat : ∀ j, j < ss.length → cur[j]? = (cellsY ss)[j]? := fun j hj => by
      rw [← htake, List.getElem?_take, if_pos (by omega)]; simp
    refine ⟨some ⟨g, 0, none⟩, cap, rfl, hnc, .inr ⟨g, rfl, hbg, hlt, ⟨hlt, fun j hj => ⟨?_, ?_⟩⟩, fun i hi => ?_⟩⟩
    · exact ⟨cur[j]'(by omega), by rw [hcell]; exact Array.getElem?_eq_getElem (by omega)⟩
    · simp [World.frozen?, hg]
    · rw [hcell, Nat.zero_add, hat i hi]
      simp [cellsY]
theorem OwnY.below {B base : Nat} {w w' : World} {v : Value} {ss : List Int} (h : OwnY w base v ss) (hb : Below B w w') (hv : ∀ g, v.ownBlock = some g → g < B) : OwnY w' base v ss := by
  rcases h with ⟨hl, h⟩
  refine ⟨hl, ?_⟩
  rcases h with h | ⟨g, cap, cur, rfl, hbg, hg, rest⟩
  · exact .inl h
  · exact .inr ⟨g, cap, cur, rfl, hbg, by rw [hb.block g (hv g rfl)]; exact hg, rest⟩
theorem OwnY.lt {base : Nat} {w : World} {v : Value} {ss : List Int} (h : OwnY w base v ss) : ∀ g, v.ownBlock = some g → base ≤ g ∧ g < w.heap.size := fun g hv => by
  rcases h.2 with ⟨rfl, h0⟩ | ⟨g', cap, cur, rfl, hbg, hg, hnc, hcm, hcs, htake⟩
  · simp [Value.ownBlock] at hv
  · have e : g' = g := by simpa [Value.ownBlock] using hv
    subst e
    refine ⟨hbg, ?_⟩
    rcases Nat.lt_or_ge g' w.heap.size with hlt | hge
    · exact hlt
    · rw [Array.getElem?_eq_none hge] at hg; cases hg
theorem OwnY.far {base : Nat} {w : World} {v : Value} {ss : List Int} (h : OwnY w base v ss) {p : Addr} (hp : v.ownBlock ≠ some p.block) (u : Value) : OwnY (w.setCell p u) base v ss := by
  rcases h with ⟨hl, h⟩
  refine ⟨hl, ?_⟩
  rcases h with h | ⟨g, cap, cur, rfl, hbg, hg, rest⟩
  · exact .inl h
  · refine .inr ⟨g, cap, cur, rfl, hbg, ?_, rest⟩
    rw [Below.heap_setCell w p u g (fun e => hp (by rw [← e]; rfl))]; exact hg
theorem OwnY.alloc {base : Nat} {w : World} {v : Value} {ss : List Int} (h : OwnY w base v ss) (o : Obj) : OwnY (w.alloc o) base v ss :=
  h.below (below1 w o) (fun g hg => (h.lt g hg).2)
theorem OwnY.emptyRow {w : World} {base g : Nat} (h : w.heap[g]? = some (.cells #[] 5 (0, 0))) (hb : base ≤ g) : OwnY w base (.slice (some ⟨g, 0, none⟩) 0 0) [] :=
  ⟨rfl, .inr ⟨g, 0, #[], rfl, hb, h, Nat.le_refl _, Nat.zero_le _, rfl, rfl⟩⟩
theorem OwnY.mono {w : World} {base base' : Nat} {v : Value} {ss : List Int} (h : OwnY w base v ss) (hb : base' ≤ base) : OwnY w base' v ss := by
  rcases h with ⟨hl, h | ⟨g, cap, cur, rfl, hbg, rest⟩⟩
  · exact ⟨hl, .inl h⟩
  · exact ⟨hl, .inr ⟨g, cap, cur, rfl, Nat.le_trans hb hbg, rest⟩⟩
theorem cellsY_oneCell (ss : List Int) : ∀ u ∈ cellsY ss, u.oneCell' = true := fun u hu => by
  unfold cellsY at hu
  obtain ⟨t, _, rfl⟩ := List.mem_map.1 hu
  rfl
theorem cellsY_append (xs ys : List Int) : cellsY (xs ++ ys) = cellsY xs ++ cellsY ys := by simp [cellsY]
theorem bys_news {w : World} {b off : Nat} {ss : List Int} (h : BysIn w b off ss) : ∀ j u, (cellsY ss)[j]? = some u → w.cell? ((⟨b, off, none⟩ : Addr).add j) = some u := fun j u hu => by
  have hj : j < ss.length := by have := (List.getElem?_eq_some_iff.1 hu).1; simpa [cellsY] using this
  rw [add_at, h j hj]
  simp only [cellsY, List.getElem?_map, List.getElem?_eq_getElem hj, Option.map_some, Option.some.injEq] at hu
  rw [hu]

set_option maxRecDepth 100000 in
theorem run_append_bys (w : World) (ty : TypeId) (base : Nat) (v : Value) (n : Nat) (xs ys : List Int) (hn : n = xs.length) (hown : OwnY w base v xs) (A : Option Addr) (m c : Nat) (hm : m = ys.length)
    (hsrc : m = 0 ∨ ∃ b off, A = some ⟨b, off, none⟩ ∧ BysIn w b off ys) (hbig : n + m ≤ 4194304) (hbase : base ≤ w.heap.size) :
    ∃ a' c' w', (Builtin.append_ #[22, 22] ty #[v, .slice A m c]).run Try.prog w = .ok (.slice a' (n + m) c') w' ∧ OwnY w' base (.slice a' (n + m) c') (xs ++ ys) ∧ w.grownBy w' v.ownBlock ∧
      ((Value.slice a' (n + m) c').ownBlock = v.ownBlock ∨ (Value.slice a' (n + m) c').ownBlock = some w.heap.size) := by
  obtain ⟨i0, hi0, hi1, hi2, hi3⟩ := info_parts info_uint8
  subst hn hm
  have hform : ∀ (W : World) (u : Value) (zs : List Int), OwnY W base u zs → ∃ a' c', u = .slice a' zs.length c' := fun W u zs h => by
    obtain ⟨a', c', h1, _, _⟩ := h.newY
    exact ⟨a', c', h1⟩
  rcases A with _ | ad
  · have h0 : ys = [] := by
      rcases hsrc with h | ⟨b, off, h, _⟩
      · exact List.eq_nil_of_length_eq_zero h
      · cases h
    subst h0
    obtain ⟨a', c', rfl⟩ := hform _ _ _ hown
    refine ⟨a', c', w, ?_, by simpa using hown, World.grownBy.refl w _, .inl rfl⟩
    rcases hown.2 with ⟨h1, h2⟩ | ⟨g, cap, cur, h1, _, _, hnc, _⟩
    · injection h1 with e1 e2 e3
      subst e1 e3
      simp [Builtin.append_, run_underlying Try.underlying22, sizeOf, typeInfo, hi0, Builtin.lenOf, Builtin.firstCells, h2]
    · injection h1 with e1 e2 e3
      subst e1 e3
      simp [Builtin.append_, run_underlying Try.underlying22, sizeOf, typeInfo, hi0, Builtin.lenOf, Builtin.firstCells, hnc, storeCells]
  · have hnews : ∀ j u, (cellsY ys)[j]? = some u → w.cell? (ad.add j) = some u := fun j u hu => by
      rcases hsrc with h | ⟨b, off, h, ht⟩
      · have e : ys = [] := List.eq_nil_of_length_eq_zero h
        subst e
        simp [cellsY] at hu
      · cases h
        exact bys_news ht j u hu
    obtain ⟨v', w', hr, h2, h3, _, h5⟩ := run_append_own_at (P := Try.prog) w base 22 ty 5 i0 _ 1 1 Try.underlying22 hi0 hi1 hi2 hi3 rfl (by omega) v xs.length (cellsY xs) hown ad ys.length c (cellsY ys) (by simp [cellsY]) hnews (cellsY_oneCell ys) (by unfold maxLen; omega) (by omega) hbase
    have hO : OwnY w' base v' (xs ++ ys) := by
      unfold OwnY
      rw [List.length_append, cellsY_append]
      exact h2
    obtain ⟨a', c', rfl⟩ := hform _ _ _ hO
    rw [List.length_append] at hr hO h5
    exact ⟨a', c', w', hr, hO, h3, h5⟩

theorem wpList_append_bys {ops : Array Oper} {rest : List Oper} {o : Oper} {a : Act} {w : World} {Q : Exit → Act → World → Prop} (hgd : o.guard = none) (s x : Operand)
    (ho : o.op = .call { callee := .builtin .append, args := #[s, x], argTypes := #[22, 22] })
    (base : Nat) (v : Value) (n : Nat) (xs ys : List Int) (hs : a.eval s = v) (hn : n = xs.length) (hown : OwnY w base v xs) (A : Option Addr) (m c : Nat) (hx : a.eval x = .slice A m c) (hm : m = ys.length)
    (hsrc : m = 0 ∨ ∃ b off, A = some ⟨b, off, none⟩ ∧ BysIn w b off ys) (hbig : n + m ≤ 4194304) (hbase : base ≤ w.heap.size)
    (h : ∀ a' c' w', OwnY w' base (.slice a' (n + m) c') (xs ++ ys) → w.grownBy w' v.ownBlock → ((Value.slice a' (n + m) c').ownBlock = v.ownBlock ∨ (Value.slice a' (n + m) c').ownBlock = some w.heap.size) → wpList Try.prog ops Q rest (a.put o.dst (.slice a' (n + m) c')) w') :
    wpList Try.prog ops Q (o :: rest) a w := by
  refine wpList_plain hgd fun K hK => ?_
  obtain ⟨a', c', w', hr, h2, h3, h4⟩ := run_append_bys w o.type base v n xs ys hn hown A m c hm hsrc hbig hbase
  unfold Oper.wp execOp
  simp only [ho, resolve, invoke, builtin, Sem.run_bind, Sem.run_pure, Result.andThen_ok, List.map_toArray, List.map_cons, List.map_nil, hs, hx, hr]
  exact hK _ _ (h a' c' w' h2 h3 h4)

theorem bys_one (w : World) (s : Int) : BysIn (w.alloc (.cells #[.int .u8 s] 5)) w.heap.size 0 [s] := fun i hi => by
  have h0 : i = 0 := by simpa using hi
  subst h0
  simp [go_sem]
theorem OwnY.one (w : World) (s : Int) : OwnY (w.alloc (.cells #[.int .u8 s] 5)) w.heap.size (.slice (some ⟨w.heap.size, 0, none⟩) 1 1) [s] :=
  ⟨rfl, .inr ⟨w.heap.size, 1, #[.int .u8 s], rfl, Nat.le_refl _, heap_alloc_new w _, Nat.le_refl _, by unfold maxLen; omega, rfl, rfl⟩⟩
theorem own_grownY {B : Nat} {w w' : World} {v : Value} {ss : List Int} (hO : OwnY w B v ss) (hg : w.grownBy w' v.ownBlock) (hB : B ≤ w.heap.size) : Below B w w' := below_of_grown hg (fun g h => (hO.lt g h).1) hB
end Go.Proofs.Ytolbgdgoambliaa
