/-
  Rows of slices of words that a call owns (paths in the making): what append leaves.
-/
import Derived.Test.YtgelajjjghboaaaSPaths
import Derived.Deep.RegionLaw
import Derived.Laws.Pointers
namespace Go.Proofs.Ytgelajjjghboaaa
open Go.RowKit

theorem info_rowS : (Try.prog.info? 31).map (fun i => (i.zero, i.size, i.bytes)) = some (some (.slice none 0 0), 1, 24) := by kernel_rfl
/-- a slice of words, as the memory holds it -/
structure Hq where
  a : Option Addr
  n : Nat
  c : Nat
/-- words in a row of cells of block `b` from `off` on -/
def HqsIn (w : World) (b off : Nat) (ss : List Hq) : Prop := ∀ i (h : i < ss.length), w.cell? ⟨b, off + i, none⟩ = some (.slice (ss[i]).a (ss[i]).n (ss[i]).c)
theorem HqsIn.below {w w' : World} {B b off : Nat} {ss : List Hq} (h : HqsIn w b off ss) (hb : Below B w w') (hlt : b < B) : HqsIn w' b off ss := fun i hi =>
  (hb.cell (p := ⟨b, _, none⟩) hlt).trans (h i hi)
theorem HqsIn.grown {w w' : World} {b off : Nat} {ss : List Hq} {r : Option Nat} (h : HqsIn w b off ss) (hg : w.grownBy w' r) (hlt : b < w.heap.size) (hne : some b ≠ r) : HqsIn w' b off ss := fun i hi =>
  (World.cell?_of_block (a := ⟨b, _, none⟩) (hg.block b hlt hne)).trans (h i hi)
theorem HqsIn.setCell {w : World} {g off : Nat} {ss : List Hq} (h : HqsIn w g off ss) {p : Addr} (hp : p.block ≠ g) (u : Value) : HqsIn (w.setCell p u) g off ss := fun i hi =>
  (World.cell?_setCell_far _ _ _ _ hp).trans (h i hi)

/-- a new row of words within bounds, which may be written -/
def NewHq (lo hi : Nat) (w : World) (a : Option Addr) (ss : List Hq) : Prop := ss = [] ∨ ∃ g, a = some ⟨g, 0, none⟩ ∧ lo ≤ g ∧ g < hi ∧ Made w g ss.length ∧ HqsIn w g 0 ss
theorem NewHq.mono {lo hi lo' hi' : Nat} {w : World} {a : Option Addr} {ss : List Hq} (h : NewHq lo hi w a ss) (h1 : lo' ≤ lo) (h2 : hi ≤ hi') : NewHq lo' hi' w a ss := by
  rcases h with h | ⟨g, e, a1, a2, a3, a4⟩
  · exact .inl h
  · exact .inr ⟨g, e, by omega, by omega, a3, a4⟩
theorem NewHq.below {lo hi B : Nat} {w w' : World} {a : Option Addr} {ss : List Hq} (h : NewHq lo hi w a ss) (hb : Below B w w') (hh : hi ≤ B) : NewHq lo hi w' a ss := by
  rcases h with h | ⟨g, h1, h2, h3, h4, h5⟩
  · exact .inl h
  · exact .inr ⟨g, h1, h2, h3, h4.below hb (by omega), h5.below hb (by omega)⟩

def cellsHq (ss : List Hq) : List Value := ss.map fun h => Value.slice h.a h.n h.c
/-- the value owns the words, in a row from the block `base` on -/
def OwnHq (w : World) (base : Nat) (v : Value) (ss : List Hq) : Prop := w.ownsRow base 31 1 v ss.length (cellsHq ss)
theorem OwnHq.nil (w : World) (base : Nat) : OwnHq w base (.slice none 0 0) [] := World.ownsRow_nil w base _ 1
theorem OwnHq.newHq {w : World} {base : Nat} {v : Value} {ss : List Hq} (h : OwnHq w base v ss) : ∃ a cap, v = .slice a ss.length cap ∧ ss.length ≤ cap ∧ NewHq base w.heap.size w a ss := by
  rcases h.2 with ⟨rfl, h0⟩ | ⟨g, cap, cur, rfl, hbg, hg, hnc, hcm, hcs, htake⟩
  · have e : ss = [] := List.eq_nil_of_length_eq_zero h0
    subst e
    exact ⟨none, 0, rfl, Nat.le_refl _, .inl rfl⟩
  · have hlt : g < w.heap.size := by
      rcases Nat.lt_or_ge g w.heap.size with hlt | hge
      · exact hlt
      · rw [Array.getElem?_eq_none hge] at hg; cases hg
    have hcell : ∀ j, w.cell? ⟨g, j, none⟩ = cur[j]? := fun j => cell_of_row w g j cur _ (0, 0) hg
    have hsz : ss.length ≤ cur.size := by rw [hcs]; omega
    have hat : ∀ j, j < ss.length → cur[j]? = (cellsHq ss)[j]? := fun j hj => by
      rw [← htake, List.getElem?_take, if_pos (by omega)]; simp
    refine ⟨some ⟨g, 0, none⟩, cap, rfl, hnc, .inr ⟨g, rfl, hbg, hlt, ⟨hlt, fun j hj => ⟨?_, ?_⟩⟩, fun i hi => ?_⟩⟩
    · exact ⟨cur[j]'(by omega), by rw [hcell]; exact Array.getElem?_eq_getElem (by omega)⟩
    · simp [World.frozen?, hg]
    · rw [hcell, Nat.zero_add, hat i hi]
      simp [cellsHq, List.getElem?_eq_getElem hi]
theorem OwnHq.below {B base : Nat} {w w' : World} {v : Value} {ss : List Hq} (h : OwnHq w base v ss) (hb : Below B w w') (hv : ∀ g, v.ownBlock = some g → g < B) : OwnHq w' base v ss := by
  rcases h with ⟨hl, h⟩
  refine ⟨hl, ?_⟩
  rcases h with h | ⟨g, cap, cur, rfl, hbg, hg, rest⟩
  · exact .inl h
  · exact .inr ⟨g, cap, cur, rfl, hbg, by rw [hb.block g (hv g rfl)]; exact hg, rest⟩
theorem OwnHq.lt {base : Nat} {w : World} {v : Value} {ss : List Hq} (h : OwnHq w base v ss) : ∀ g, v.ownBlock = some g → base ≤ g ∧ g < w.heap.size := fun g hv => by
  rcases h.2 with ⟨rfl, h0⟩ | ⟨g', cap, cur, rfl, hbg, hg, hnc, hcm, hcs, htake⟩
  · simp [Value.ownBlock] at hv
  · have e : g' = g := by simpa [Value.ownBlock] using hv
    subst e
    refine ⟨hbg, ?_⟩
    rcases Nat.lt_or_ge g' w.heap.size with hlt | hge
    · exact hlt
    · rw [Array.getElem?_eq_none hge] at hg; cases hg
theorem OwnHq.far {base : Nat} {w : World} {v : Value} {ss : List Hq} (h : OwnHq w base v ss) {p : Addr} (hp : v.ownBlock ≠ some p.block) (u : Value) : OwnHq (w.setCell p u) base v ss := by
  rcases h with ⟨hl, h⟩
  refine ⟨hl, ?_⟩
  rcases h with h | ⟨g, cap, cur, rfl, hbg, hg, rest⟩
  · exact .inl h
  · refine .inr ⟨g, cap, cur, rfl, hbg, ?_, rest⟩
    rw [Below.heap_setCell w p u g (fun e => hp (by rw [← e]; rfl))]; exact hg
theorem OwnHq.alloc {base : Nat} {w : World} {v : Value} {ss : List Hq} (h : OwnHq w base v ss) (o : Obj) : OwnHq (w.alloc o) base v ss :=
  h.below (below1 w o) (fun g hg => (h.lt g hg).2)
theorem OwnHq.emptyRow {w : World} {base g : Nat} (h : w.heap[g]? = some (.cells #[] 31 (0, 0))) (hb : base ≤ g) : OwnHq w base (.slice (some ⟨g, 0, none⟩) 0 0) [] :=
  ⟨rfl, .inr ⟨g, 0, #[], rfl, hb, h, Nat.le_refl _, Nat.zero_le _, rfl, rfl⟩⟩
theorem OwnHq.mono {w : World} {base base' : Nat} {v : Value} {ss : List Hq} (h : OwnHq w base v ss) (hb : base' ≤ base) : OwnHq w base' v ss := by
  rcases h with ⟨hl, h | ⟨g, cap, cur, rfl, hbg, rest⟩⟩
  · exact ⟨hl, .inl h⟩
  · exact ⟨hl, .inr ⟨g, cap, cur, rfl, Nat.le_trans hb hbg, rest⟩⟩
theorem cellsHq_oneCell (ss : List Hq) : ∀ u ∈ cellsHq ss, u.oneCell' = true := fun u hu => by
  unfold cellsHq at hu
  obtain ⟨t, _, rfl⟩ := List.mem_map.1 hu
  rfl
theorem cellsHq_append (xs ys : List Hq) : cellsHq (xs ++ ys) = cellsHq xs ++ cellsHq ys := by simp [cellsHq]
theorem hqs_news {w : World} {b off : Nat} {ss : List Hq} (h : HqsIn w b off ss) : ∀ j u, (cellsHq ss)[j]? = some u → w.cell? ((⟨b, off, none⟩ : Addr).add j) = some u := fun j u hu => by
  have hj : j < ss.length := by have := (List.getElem?_eq_some_iff.1 hu).1; simpa [cellsHq] using this
  rw [add_at, h j hj]
  simp only [cellsHq, List.getElem?_map, List.getElem?_eq_getElem hj, Option.map_some, Option.some.injEq] at hu
  rw [hu]

set_option maxRecDepth 100000 in
theorem run_append_hqs (w : World) (ty : TypeId) (base : Nat) (v : Value) (n : Nat) (xs ys : List Hq) (hn : n = xs.length) (hown : OwnHq w base v xs) (A : Option Addr) (m c : Nat) (hm : m = ys.length)
    (hsrc : m = 0 ∨ ∃ b off, A = some ⟨b, off, none⟩ ∧ HqsIn w b off ys) (hbig : n + m ≤ 4194304) (hbase : base ≤ w.heap.size) :
    ∃ a' c' w', (Builtin.append_ #[38, 38] ty #[v, .slice A m c]).run Try.prog w = .ok (.slice a' (n + m) c') w' ∧ OwnHq w' base (.slice a' (n + m) c') (xs ++ ys) ∧ w.grownBy w' v.ownBlock ∧
      ((Value.slice a' (n + m) c').ownBlock = v.ownBlock ∨ (Value.slice a' (n + m) c').ownBlock = some w.heap.size) := by
  obtain ⟨i0, hi0, hi1, hi2, hi3⟩ := info_parts info_rowS
  subst hn hm
  have hform : ∀ (W : World) (u : Value) (zs : List Hq), OwnHq W base u zs → ∃ a' c', u = .slice a' zs.length c' := fun W u zs h => by
    obtain ⟨a', c', h1, _, _⟩ := h.newHq
    exact ⟨a', c', h1⟩
  rcases A with _ | ad
  · have h0 : ys = [] := by
      rcases hsrc with h | ⟨b, off, h, _⟩
      · exact List.eq_nil_of_length_eq_zero h
      · cases h
    subst h0
    obtain ⟨a', c', rfl⟩ := hform _ _ _ hown
    refine ⟨a', c', w, ?_, by simpa using hown, World.grownBy.refl w _, .inl rfl⟩
    rcases hown.2 with ⟨h1, h2⟩ | ⟨g, cap, cur, h1, _, _, hnc, _⟩
    · injection h1 with e1 e2 e3
      subst e1 e3
      simp [Builtin.append_, run_underlying Try.underlying38, sizeOf, typeInfo, hi0, Builtin.lenOf, Builtin.firstCells, h2]
    · injection h1 with e1 e2 e3
      subst e1 e3
      simp [Builtin.append_, run_underlying Try.underlying38, sizeOf, typeInfo, hi0, Builtin.lenOf, Builtin.firstCells, hnc, storeCells]
  · have hnews : ∀ j u, (cellsHq ys)[j]? = some u → w.cell? (ad.add j) = some u := fun j u hu => by
      rcases hsrc with h | ⟨b, off, h, ht⟩
      · have e : ys = [] := List.eq_nil_of_length_eq_zero h
        subst e
        simp [cellsHq] at hu
      · cases h
        exact hqs_news ht j u hu
    obtain ⟨v', w', hr, h2, h3, _, h5⟩ := run_append_own_at (P := Try.prog) w base 38 ty 31 i0 _ 1 24 Try.underlying38 hi0 hi1 hi2 hi3 rfl (by omega) v xs.length (cellsHq xs) hown ad ys.length c (cellsHq ys) (by simp [cellsHq]) hnews (cellsHq_oneCell ys) (by unfold maxLen; omega) (by omega) hbase
    have hO : OwnHq w' base v' (xs ++ ys) := by
      unfold OwnHq
      rw [List.length_append, cellsHq_append]
      exact h2
    obtain ⟨a', c', rfl⟩ := hform _ _ _ hO
    rw [List.length_append] at hr hO h5
    exact ⟨a', c', w', hr, hO, h3, h5⟩

theorem wpList_append_hqs {ops : Array Oper} {rest : List Oper} {o : Oper} {a : Act} {w : World} {Q : Exit → Act → World → Prop} (hgd : o.guard = none) (s x : Operand)
    (ho : o.op = .call { callee := .builtin .append, args := #[s, x], argTypes := #[38, 38] })
    (base : Nat) (v : Value) (n : Nat) (xs ys : List Hq) (hs : a.eval s = v) (hn : n = xs.length) (hown : OwnHq w base v xs) (A : Option Addr) (m c : Nat) (hx : a.eval x = .slice A m c) (hm : m = ys.length)
    (hsrc : m = 0 ∨ ∃ b off, A = some ⟨b, off, none⟩ ∧ HqsIn w b off ys) (hbig : n + m ≤ 4194304) (hbase : base ≤ w.heap.size)
    (h : ∀ a' c' w', OwnHq w' base (.slice a' (n + m) c') (xs ++ ys) → w.grownBy w' v.ownBlock → ((Value.slice a' (n + m) c').ownBlock = v.ownBlock ∨ (Value.slice a' (n + m) c').ownBlock = some w.heap.size) → wpList Try.prog ops Q rest (a.put o.dst (.slice a' (n + m) c')) w') :
    wpList Try.prog ops Q (o :: rest) a w := by
  refine wpList_plain hgd fun K hK => ?_
  obtain ⟨a', c', w', hr, h2, h3, h4⟩ := run_append_hqs w o.type base v n xs ys hn hown A m c hm hsrc hbig hbase
  unfold Oper.wp execOp
  simp only [ho, resolve, invoke, builtin, Sem.run_bind, Sem.run_pure, Result.andThen_ok, List.map_toArray, List.map_cons, List.map_nil, hs, hx, hr]
  exact hK _ _ (h a' c' w' h2 h3 h4)

theorem hqs_one (w : World) (s : Hq) : HqsIn (w.alloc (.cells #[.slice s.a s.n s.c] 31)) w.heap.size 0 [s] := fun i hi => by
  have h0 : i = 0 := by simpa using hi
  subst h0
  simp [go_sem]
theorem OwnHq.one (w : World) (s : Hq) : OwnHq (w.alloc (.cells #[.slice s.a s.n s.c] 31)) w.heap.size (.slice (some ⟨w.heap.size, 0, none⟩) 1 1) [s] :=
  ⟨rfl, .inr ⟨w.heap.size, 1, #[.slice s.a s.n s.c], rfl, Nat.le_refl _, heap_alloc_new w _, Nat.le_refl _, by unfold maxLen; omega, rfl, rfl⟩⟩
theorem own_grownHq {B : Nat} {w w' : World} {v : Value} {ss : List Hq} (hO : OwnHq w B v ss) (hg : w.grownBy w' v.ownBlock) (hB : B ≤ w.heap.size) : Below B w w' := below_of_grown hg (fun g h => (hO.lt g h).1) hB

theorem OwnHq.at_ {w : World} {base : Nat} {a : Option Addr} {l c : Nat} {ss : List Hq} (h : OwnHq w base (.slice a l c) ss) : l = ss.length ∧ NewHq base w.heap.size w a ss := by
  obtain ⟨a', c', he, hle, hN⟩ := h.newHq
  injection he with e1 e2 e3
  subst e1 e3
  exact ⟨e2, hN⟩
theorem OwnHq.grown {base : Nat} {w w' : World} {v : Value} {ss : List Hq} {r : Option Nat} (h : OwnHq w base v ss) (hg : w.grownBy w' r) (hr : ∀ g, v.ownBlock = some g → some g ≠ r) : OwnHq w' base v ss := by
  have hlt := h.lt
  rcases h with ⟨hl, h⟩
  refine ⟨hl, ?_⟩
  rcases h with h | ⟨g, cap, cur, rfl, hbg, hgg, rest⟩
  · exact .inl h
  · exact .inr ⟨g, cap, cur, rfl, hbg, by rw [hg.block g (hlt g rfl).2 (hr g rfl)]; exact hgg, rest⟩

/-- the rows behind the headers -/
def HqRows (lo hi : Nat) (w : World) (hs : List Hq) (ps : List (List ByteArray)) : Prop := hs.length = ps.length ∧ ∀ i (h : i < ps.length) (h' : i < hs.length), (hs[i]).n = (ps[i]).length ∧ SRowL lo hi w (hs[i]).a ps[i]
theorem HqRows.below {lo hi B : Nat} {w w' : World} {hs : List Hq} {ps : List (List ByteArray)} (h : HqRows lo hi w hs ps) (hb : Below B w w') (hh : hi ≤ B) : HqRows lo hi w' hs ps := ⟨h.1, fun i a b => ⟨(h.2 i a b).1, (h.2 i a b).2.below hb hh⟩⟩
theorem HqRows.mono {lo hi lo' hi' : Nat} {w : World} {hs : List Hq} {ps : List (List ByteArray)} (h : HqRows lo hi w hs ps) (h1 : lo' ≤ lo) (h2 : hi ≤ hi') : HqRows lo' hi' w hs ps := ⟨h.1, fun i a b => ⟨(h.2 i a b).1, (h.2 i a b).2.mono h1 h2⟩⟩
theorem HqRows.append {lo hi : Nat} {w : World} {hs ks : List Hq} {ps qs : List (List ByteArray)} (h : HqRows lo hi w hs ps) (k : HqRows lo hi w ks qs) : HqRows lo hi w (hs ++ ks) (ps ++ qs) := by
  refine ⟨by simp [h.1, k.1], fun i a b => ?_⟩
  by_cases hlt : i < ps.length
  · have hlt' : i < hs.length := by rw [h.1]; exact hlt
    rw [List.getElem_append_left hlt', List.getElem_append_left hlt]
    exact h.2 i hlt hlt'
  · have hge : ps.length ≤ i := by omega
    have hge' : hs.length ≤ i := by rw [h.1]; exact hge
    rw [List.getElem_append_right hge', List.getElem_append_right hge]
    have e : i - hs.length = i - ps.length := by rw [h.1]
    have hq : i - ps.length < qs.length := by rw [List.length_append] at a; omega
    have := k.2 (i - ps.length) hq (by rw [k.1]; exact hq)
    simpa only [e] using this
theorem SPRow.hqs {lo hi : Nat} {w : World} {a : Option Addr} {ps : List (List ByteArray)} (h : SPRow lo hi w a ps) : ∃ hs : List Hq, HqRows lo hi w hs ps ∧ (hs.length = 0 ∨ ∃ b off, a = some ⟨b, off, none⟩ ∧ lo ≤ b ∧ b < hi ∧ HqsIn w b off hs) := by
  rcases h with rfl | ⟨b, off, e, h1, h2, h3⟩
  · exact ⟨[], ⟨rfl, fun _ a => absurd a (Nat.not_lt_zero _)⟩, .inl rfl⟩
  · have key : ∀ k, k ≤ ps.length → ∃ hs : List Hq, hs.length = k ∧ ∀ i (h : i < hs.length) (h' : i < ps.length), w.cell? ⟨b, off + i, none⟩ = some (.slice (hs[i]).a (hs[i]).n (hs[i]).c) ∧ (hs[i]).n = (ps[i]).length ∧ SRowL lo hi w (hs[i]).a ps[i] := by
      intro k hk
      induction k with
      | zero => exact ⟨[], rfl, fun _ hi => absurd hi (Nat.not_lt_zero _)⟩
      | succ k ih =>
        obtain ⟨hs, hl, hh⟩ := ih (by omega)
        obtain ⟨a', c, q1, q2⟩ := h3 k (by omega)
        refine ⟨hs ++ [⟨a', (ps[k]).length, c⟩], by simp [hl], fun i hi hi' => ?_⟩
        by_cases hlt : i < hs.length
        · rw [List.getElem_append_left hlt]; exact hh i hlt hi'
        · have : i = k := by rw [List.length_append] at hi; simp at hi; omega
          subst this
          rw [List.getElem_append_right (by omega)]
          simp only [hl, Nat.sub_self, List.getElem_singleton]
          exact ⟨q1, by trivial, q2⟩
    obtain ⟨hs, hl, hh⟩ := key ps.length (Nat.le_refl _)
    exact ⟨hs, ⟨hl, fun i hi hi' => (hh i hi' hi).2⟩, .inr ⟨b, off, e, h1, h2, fun i hi => (hh i hi (by omega)).1⟩⟩
theorem HqRows.path {lo hi : Nat} {w : World} {a : Option Addr} {hs : List Hq} {ps : List (List ByteArray)} (h : HqRows lo hi w hs ps) {b off : Nat} (ha : a = some ⟨b, off, none⟩) (h1 : lo ≤ b) (h2 : b < hi) (h3 : HqsIn w b off hs) : SPRow lo hi w a ps :=
  .inr ⟨b, off, ha, h1, h2, fun i hi => by
    have hi' : i < hs.length := by rw [h.1]; exact hi
    obtain ⟨q1, q2⟩ := h.2 i hi hi'
    exact ⟨(hs[i]).a, (hs[i]).c, by rw [h3 i hi', q1], q2⟩⟩

/-- the value owns a path: the headers, and the rows, which are new, apart from each other and from the headers -/
def OwnSP (w : World) (base : Nat) (v : Value) (ps : List (List ByteArray)) : Prop :=
  ∃ hs : List Hq, OwnHq w base v hs ∧ hs.length = ps.length ∧
    (∀ i (h : i < ps.length) (h' : i < hs.length), (hs[i]).n = (ps[i]).length ∧ NewS base w.heap.size w (hs[i]).a ps[i] ∧ (ps[i] ≠ [] → ∀ g, v.ownBlock = some g → (hs[i]).a ≠ some ⟨g, 0, none⟩)) ∧
    ∀ i j (hi : i < ps.length) (hj : j < ps.length) (hi' : i < hs.length) (hj' : j < hs.length), i ≠ j → ps[i] ≠ [] → ps[j] ≠ [] → (hs[i]).a ≠ (hs[j]).a
theorem OwnSP.nil (w : World) (base : Nat) : OwnSP w base (.slice none 0 0) [] := ⟨[], OwnHq.nil _ _, rfl, fun _ h => absurd h (Nat.not_lt_zero _), fun _ _ h => absurd h (Nat.not_lt_zero _)⟩
theorem OwnSP.emptyRow {w : World} {base g : Nat} (h : w.heap[g]? = some (.cells #[] 31 (0, 0))) (hb : base ≤ g) : OwnSP w base (.slice (some ⟨g, 0, none⟩) 0 0) [] := ⟨[], OwnHq.emptyRow h hb, rfl, fun _ h => absurd h (Nat.not_lt_zero _), fun _ _ h => absurd h (Nat.not_lt_zero _)⟩
theorem OwnSP.lt {base : Nat} {w : World} {v : Value} {ps : List (List ByteArray)} (h : OwnSP w base v ps) : ∀ g, v.ownBlock = some g → base ≤ g ∧ g < w.heap.size := by
  obtain ⟨hs, h1, _⟩ := h
  exact h1.lt
theorem OwnSP.below {base : Nat} {w w' : World} {v : Value} {ps : List (List ByteArray)} (h : OwnSP w base v ps) (hb : Below w.heap.size w w') : OwnSP w' base v ps := by
  obtain ⟨hs, h1, h2, h3, h4⟩ := h
  exact ⟨hs, h1.below hb (fun g hg => (h1.lt g hg).2), h2, fun i a b => ⟨(h3 i a b).1, ((h3 i a b).2.1.below hb (Nat.le_refl _)).mono (Nat.le_refl _) hb.size, (h3 i a b).2.2⟩, h4⟩
theorem OwnSP.form {base : Nat} {w : World} {v : Value} {ps : List (List ByteArray)} (h : OwnSP w base v ps) : ∃ a c, v = .slice a ps.length c := by
  obtain ⟨hs, h1, h2, _⟩ := h
  obtain ⟨a, c, e, _, _⟩ := h1.newHq
  exact ⟨a, c, by rw [e, h2]⟩
theorem OwnSP.at_ {base : Nat} {w : World} {a : Option Addr} {l c : Nat} {ps : List (List ByteArray)} (h : OwnSP w base (.slice a l c) ps) : l = ps.length ∧ NewSP base w.heap.size w a ps := by
  obtain ⟨hs, h1, h2, h3, h4⟩ := h
  obtain ⟨e, hN⟩ := h1.at_
  refine ⟨by rw [e, h2], ?_⟩
  rcases hN with h0 | ⟨g, ea, b1, b2, hM, hI⟩
  · subst h0
    exact .inl (List.eq_nil_of_length_eq_zero (by simpa using h2.symm))
  · subst ea
    refine .inr ⟨g, fun i => (hs.getD i ⟨none, 0, 0⟩).a, fun i => (hs.getD i ⟨none, 0, 0⟩).c, rfl, b1, b2, by rw [← h2]; exact hM, fun i hi => ?_, fun i j hi hj hne p q => ?_⟩
    · have hi' : i < hs.length := by rw [h2]; exact hi
      obtain ⟨q1, q2, q3⟩ := h3 i hi hi'
      have e2 : hs.getD i ⟨none, 0, 0⟩ = hs[i] := by rw [List.getD_eq_getElem?_getD, List.getElem?_eq_getElem hi']; rfl
      dsimp only
      rw [e2]
      have hc := hI i hi'
      rw [Nat.zero_add, q1] at hc
      exact ⟨hc, q2, fun p => q3 p g rfl⟩
    · have hi' : i < hs.length := by rw [h2]; exact hi
      have hj' : j < hs.length := by rw [h2]; exact hj
      have e1 : hs.getD i ⟨none, 0, 0⟩ = hs[i] := by rw [List.getD_eq_getElem?_getD, List.getElem?_eq_getElem hi']; rfl
      have e2 : hs.getD j ⟨none, 0, 0⟩ = hs[j] := by rw [List.getD_eq_getElem?_getD, List.getElem?_eq_getElem hj']; rfl
      dsimp only
      rw [e1, e2]
      exact h4 i j hi hj hi' hj' hne p q
theorem OwnSP.row {base : Nat} {w : World} {a : Option Addr} {l c : Nat} {ps : List (List ByteArray)} (h : OwnSP w base (.slice a l c) ps) : SPRow base w.heap.size w a ps := h.at_.2.row

/-- what appending a new row to an owned path leaves: `w` is the world ahead of the append, in which the row already lies -/
theorem OwnSP.snoc {base B : Nat} {w0 w w' : World} {v v' : Value} {ps : List (List ByteArray)} {hs : List Hq} {z : List ByteArray} {a : Option Addr} {c : Nat}
    (h0 : OwnHq w0 base v hs) (hlen : hs.length = ps.length)
    (h3 : ∀ i (h : i < ps.length) (h' : i < hs.length), (hs[i]).n = (ps[i]).length ∧ NewS base w0.heap.size w0 (hs[i]).a ps[i] ∧ (ps[i] ≠ [] → ∀ g, v.ownBlock = some g → (hs[i]).a ≠ some ⟨g, 0, none⟩))
    (h4 : ∀ i j (hi : i < ps.length) (hj : j < ps.length) (hi' : i < hs.length) (hj' : j < hs.length), i ≠ j → ps[i] ≠ [] → ps[j] ≠ [] → (hs[i]).a ≠ (hs[j]).a)
    (hb : Below w0.heap.size w0 w) (hz : NewS w0.heap.size B w a z) (hB : B ≤ w.heap.size) (hbase : base ≤ w0.heap.size)
    (hO : OwnHq w' base v' (hs ++ [⟨a, z.length, c⟩])) (hg : w.grownBy w' v.ownBlock) (hv : v'.ownBlock = v.ownBlock ∨ v'.ownBlock = some w.heap.size) : OwnSP w' base v' (ps ++ [z]) := by
  have hvlt : ∀ g, v.ownBlock = some g → g < w0.heap.size := fun g hg => (h0.lt g hg).2
  -- a row that lay in w, apart from the headers' block, lies in w'
  have keep : ∀ (x : Option Addr) (r : List ByteArray), NewS base w.heap.size w x r → (r ≠ [] → ∀ g, v.ownBlock = some g → x ≠ some ⟨g, 0, none⟩) → NewS base w'.heap.size w' x r := fun x r hx hne => by
    rcases hx with hx | ⟨g, e, b1, b2, b3, b4⟩
    · exact .inl hx
    · by_cases hr : r = []
      · exact .inl hr
      · exact (NewS.aside (.inr ⟨g, e, b1, Nat.lt_of_lt_of_le b2 hg.size, b3, b4⟩) hg (fun q hq _ => hne hr q hq))
  have oldI : ∀ i (h : i < ps.length) (h' : i < hs.length), NewS base w.heap.size w (hs[i]).a ps[i] := fun i h h' => ((h3 i h h').2.1.below hb (Nat.le_refl _)).mono (Nat.le_refl _) hb.size
  have oldlt : ∀ i (h : i < ps.length) (h' : i < hs.length), ps[i] ≠ [] → ∀ g, (hs[i]).a = some ⟨g, 0, none⟩ → g < w0.heap.size := fun i h h' hne g hg => by
    rcases (h3 i h h').2.1 with hx | ⟨q, e, b1, b2, _⟩
    · exact absurd hx hne
    · rw [e] at hg; injection hg with hg; injection hg with hg; omega
  have newge : z ≠ [] → ∀ g, a = some ⟨g, 0, none⟩ → w0.heap.size ≤ g ∧ g < w.heap.size := fun hne g hg => by
    rcases hz with hx | ⟨q, e, b1, b2, _⟩
    · exact absurd hx hne
    · rw [e] at hg; injection hg with hg; injection hg with hg; omega
  have newform : z ≠ [] → ∃ g, a = some ⟨g, 0, none⟩ := fun hne => by
    rcases hz with hx | ⟨q, e, _⟩
    · exact absurd hx hne
    · exact ⟨q, e⟩
  have out' : ∀ g, v'.ownBlock = some g → v.ownBlock = some g ∨ g = w.heap.size := fun g hg => by
    rcases hv with e | e
    · exact .inl (by rw [← e]; exact hg)
    · rw [e] at hg; injection hg with hg; exact .inr hg.symm
  refine ⟨hs ++ [⟨a, z.length, c⟩], hO, by simp [hlen], fun i h h' => ?_, fun i j hi hj hi' hj' hne p q => ?_⟩
  · by_cases hlt : i < ps.length
    · have hlt' : i < hs.length := by omega
      rw [List.getElem_append_left hlt', List.getElem_append_left hlt]
      obtain ⟨q1, q2, q3⟩ := h3 i hlt hlt'
      refine ⟨q1, keep _ _ (oldI i hlt hlt') q3, fun hne g hg e => ?_⟩
      rcases out' g hg with e2 | e2
      · exact q3 hne g e2 e
      · have := oldlt i hlt hlt' hne g e
        have := hb.size
        omega
    · have e1 : i = ps.length := by rw [List.length_append] at h; simp at h; omega
      subst e1
      rw [List.getElem_append_right (by omega), List.getElem_append_right (Nat.le_refl _)]
      simp only [hlen, Nat.sub_self, List.getElem_singleton]
      refine ⟨trivial, keep _ _ ((hz.mono hbase hB)) (fun hne g hg e => ?_), fun hne g hg e => ?_⟩
      · have := newge hne g e
        have := hvlt g hg
        omega
      · rcases out' g hg with e2 | e2
        · have := newge hne g e
          have := hvlt g e2
          omega
        · have := newge hne g e
          omega
  · have hN : ∀ k (hk : k < (ps ++ [z]).length) (hk' : k < (hs ++ [(⟨a, z.length, c⟩ : Hq)]).length), ¬ k < ps.length → (ps ++ [z])[k] = z ∧ ((hs ++ [(⟨a, z.length, c⟩ : Hq)])[k]).a = a := fun k hk hk' hge => by
      have e1 : k = ps.length := by rw [List.length_append] at hk; simp at hk; omega
      subst e1
      rw [List.getElem_append_right (Nat.le_refl _), List.getElem_append_right (by omega)]
      simp [hlen]
    by_cases hi1 : i < ps.length
    · have hi2 : i < hs.length := by omega
      rw [List.getElem_append_left hi1] at p
      rw [List.getElem_append_left hi2]
      by_cases hj1 : j < ps.length
      · have hj2 : j < hs.length := by omega
        rw [List.getElem_append_left hj1] at q
        rw [List.getElem_append_left hj2]
        exact h4 i j hi1 hj1 hi2 hj2 hne p q
      · obtain ⟨ez, ea⟩ := hN j hj hj' hj1
        rw [ez] at q
        rw [ea]
        obtain ⟨g, eg⟩ := newform q
        intro e
        rw [eg] at e
        have := oldlt i hi1 hi2 p g e
        have := newge q g eg
        omega
    · obtain ⟨ez, ea⟩ := hN i hi hi' hi1
      rw [ez] at p
      rw [ea]
      have hj1 : j < ps.length := by
        rw [List.length_append] at hi hj; simp at hi hj; omega
      have hj2 : j < hs.length := by omega
      rw [List.getElem_append_left hj1] at q
      rw [List.getElem_append_left hj2]
      obtain ⟨g, eg⟩ := newform p
      intro e
      rw [eg] at e
      have := oldlt j hj1 hj2 q g e.symm
      have := newge p g eg
      omega
end Go.Proofs.Ytgelajjjghboaaa
