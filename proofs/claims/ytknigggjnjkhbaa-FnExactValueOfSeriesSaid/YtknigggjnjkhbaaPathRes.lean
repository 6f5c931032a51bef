/-
  Rows of slices of numbers that a call owns (paths in the making): what append leaves.
  Paths in the making: one row more; the model's copies of steps and paths; the program's path of moves.
-/
import Derived.Test.YtknigggjnjkhbaaPaths
import Derived.Test.YtknigggjnjkhbaaEndOf
namespace Go.Proofs.Ytknigggjnjkhbaa
open Go.RowKit

/-- a slice of numbers, as the memory holds it -/
structure Hd where
  a : Option Addr
  n : Nat
  c : Nat
/-- words in a row of cells of block `b` from `off` on -/
def HdsIn (w : World) (b off : Nat) (ss : List Hd) : Prop := ∀ i (h : i < ss.length), w.cell? ⟨b, off + i, none⟩ = some (.slice (ss[i]).a (ss[i]).n (ss[i]).c)
theorem HdsIn.below {w w' : World} {B b off : Nat} {ss : List Hd} (h : HdsIn w b off ss) (hb : Below B w w') (hlt : b < B) : HdsIn w' b off ss := fun i hi =>
  (hb.cell (p := ⟨b, _, none⟩) hlt).trans (h i hi)
theorem HdsIn.grown {w w' : World} {b off : Nat} {ss : List Hd} {r : Option Nat} (h : HdsIn w b off ss) (hg : w.grownBy w' r) (hlt : b < w.heap.size) (hne : some b ≠ r) : HdsIn w' b off ss := fun i hi =>
  (World.cell?_of_block (a := ⟨b, _, none⟩) (hg.block b hlt hne)).trans (h i hi)
theorem HdsIn.setCell {w : World} {g off : Nat} {ss : List Hd} (h : HdsIn w g off ss) {p : Addr} (hp : p.block ≠ g) (u : Value) : HdsIn (w.setCell p u) g off ss := fun i hi =>
  (World.cell?_setCell_far _ _ _ _ hp).trans (h i hi)

/-- a new row of words within bounds, which may be written -/
def NewH (lo hi : Nat) (w : World) (a : Option Addr) (ss : List Hd) : Prop := ss = [] ∨ ∃ g, a = some ⟨g, 0, none⟩ ∧ lo ≤ g ∧ g < hi ∧ Made w g ss.length ∧ HdsIn w g 0 ss
theorem NewH.mono {lo hi lo' hi' : Nat} {w : World} {a : Option Addr} {ss : List Hd} (h : NewH lo hi w a ss) (h1 : lo' ≤ lo) (h2 : hi ≤ hi') : NewH lo' hi' w a ss := by
  rcases h with h | ⟨g, e, a1, a2, a3, a4⟩
  · exact .inl h
  · exact .inr ⟨g, e, by omega, by omega, a3, a4⟩
theorem NewH.below {lo hi B : Nat} {w w' : World} {a : Option Addr} {ss : List Hd} (h : NewH lo hi w a ss) (hb : Below B w w') (hh : hi ≤ B) : NewH lo hi w' a ss := by
  rcases h with h | ⟨g, h1, h2, h3, h4, h5⟩
  · exact .inl h
  · exact .inr ⟨g, h1, h2, h3, h4.below hb (by omega), h5.below hb (by omega)⟩

def cellsH (ss : List Hd) : List Value := ss.map fun h => Value.slice h.a h.n h.c
/-- the value owns the words, in a row from the block `base` on -/
def OwnH (w : World) (base : Nat) (v : Value) (ss : List Hd) : Prop := w.ownsRow base 79 1 v ss.length (cellsH ss)
theorem OwnH.nil (w : World) (base : Nat) : OwnH w base (.slice none 0 0) [] := World.ownsRow_nil w base _ 1
theorem OwnH.newH {w : World} {base : Nat} {v : Value} {ss : List Hd} (h : OwnH w base v ss) : ∃ a cap, v = .slice a ss.length cap ∧ ss.length ≤ cap ∧ NewH base w.heap.size w a ss := by
  rcases h.2 with ⟨rfl, h0⟩ | ⟨g, cap, cur, rfl, hbg, hg, hnc, hcm, hcs, htake⟩
  · have e : ss = [] := List.eq_nil_of_length_eq_zero h0
    subst e
    exact ⟨none, 0, rfl, Nat.le_refl _, .inl rfl⟩
  · have hlt : g < w.heap.size := by
      rcases Nat.lt_or_ge g w.heap.size with hlt | hge
      · exact hlt
      · rw [Array.getElem?_eq_none hge] at hg; cases hg
    have hcell : ∀ j, w.cell? ⟨g, j, none⟩ = cur[j]? := fun j => cell_of_row w g j cur _ (0, 0) hg
    have hsz : ss.length ≤ cur.size := by rw [hcs]; omega
    have hat : ∀ j, j < ss.length → cur[j]? = (cellsH ss)[j]? := fun j hj => by
      rw [← htake, List.getElem?_take, if_pos (by omega)]; simp
    refine ⟨some ⟨g, 0, none⟩, cap, rfl, hnc, .inr ⟨g, rfl, hbg, hlt, ⟨hlt, fun j hj => ⟨?_, ?_⟩⟩, fun i hi => ?_⟩⟩
    · exact ⟨cur[j]'(by omega), by rw [hcell]; exact Array.getElem?_eq_getElem (by omega)⟩
    · simp [World.frozen?, hg]
    · rw [hcell, Nat.zero_add, hat i hi]
      simp [cellsH, List.getElem?_eq_getElem hi]
theorem OwnH.below {B base : Nat} {w w' : World} {v : Value} {ss : List Hd} (h : OwnH w base v ss) (hb : Below B w w') (hv : ∀ g, v.ownBlock = some g → g < B) : OwnH w' base v ss := by
  rcases h with ⟨hl, h⟩
  refine ⟨hl, ?_⟩
  rcases h with h | ⟨g, cap, cur, rfl, hbg, hg, rest⟩
  · exact .inl h
  · exact .inr ⟨g, cap, cur, rfl, hbg, by rw [hb.block g (hv g rfl)]; exact hg, rest⟩
theorem OwnH.lt {base : Nat} {w : World} {v : Value} {ss : List Hd} (h : OwnH w base v ss) : ∀ g, v.ownBlock = some g → base ≤ g ∧ g < w.heap.size := fun g hv => by
  rcases h.2 with ⟨rfl, h0⟩ | ⟨g', cap, cur, rfl, hbg, hg, hnc, hcm, hcs, htake⟩
  · simp [Value.ownBlock] at hv
  · have e : g' = g := by simpa [Value.ownBlock] using hv
    subst e
    refine ⟨hbg, ?_⟩
    rcases Nat.lt_or_ge g' w.heap.size with hlt | hge
    · exact hlt
    · rw [Array.getElem?_eq_none hge] at hg; cases hg
theorem OwnH.far {base : Nat} {w : World} {v : Value} {ss : List Hd} (h : OwnH w base v ss) {p : Addr} (hp : v.ownBlock ≠ some p.block) (u : Value) : OwnH (w.setCell p u) base v ss := by
  rcases h with ⟨hl, h⟩
  refine ⟨hl, ?_⟩
  rcases h with h | ⟨g, cap, cur, rfl, hbg, hg, rest⟩
  · exact .inl h
  · refine .inr ⟨g, cap, cur, rfl, hbg, ?_, rest⟩
    rw [Below.heap_setCell w p u g (fun e => hp (by rw [← e]; rfl))]; exact hg
theorem OwnH.alloc {base : Nat} {w : World} {v : Value} {ss : List Hd} (h : OwnH w base v ss) (o : Obj) : OwnH (w.alloc o) base v ss :=
  h.below (below1 w o) (fun g hg => (h.lt g hg).2)
theorem OwnH.emptyRow {w : World} {base g : Nat} (h : w.heap[g]? = some (.cells #[] 79 (0, 0))) (hb : base ≤ g) : OwnH w base (.slice (some ⟨g, 0, none⟩) 0 0) [] :=
  ⟨rfl, .inr ⟨g, 0, #[], rfl, hb, h, Nat.le_refl _, Nat.zero_le _, rfl, rfl⟩⟩
theorem OwnH.mono {w : World} {base base' : Nat} {v : Value} {ss : List Hd} (h : OwnH w base v ss) (hb : base' ≤ base) : OwnH w base' v ss := by
  rcases h with ⟨hl, h | ⟨g, cap, cur, rfl, hbg, rest⟩⟩
  · exact ⟨hl, .inl h⟩
  · exact ⟨hl, .inr ⟨g, cap, cur, rfl, Nat.le_trans hb hbg, rest⟩⟩
theorem cellsH_oneCell (ss : List Hd) : ∀ u ∈ cellsH ss, u.oneCell' = true := fun u hu => by
  unfold cellsH at hu
  obtain ⟨t, _, rfl⟩ := List.mem_map.1 hu
  rfl
theorem cellsH_append (xs ys : List Hd) : cellsH (xs ++ ys) = cellsH xs ++ cellsH ys := by simp [cellsH]
theorem hds_news {w : World} {b off : Nat} {ss : List Hd} (h : HdsIn w b off ss) : ∀ j u, (cellsH ss)[j]? = some u → w.cell? ((⟨b, off, none⟩ : Addr).add j) = some u := fun j u hu => by
  have hj : j < ss.length := by have := (List.getElem?_eq_some_iff.1 hu).1; simpa [cellsH] using this
  rw [add_at, h j hj]
  simp only [cellsH, List.getElem?_map, List.getElem?_eq_getElem hj, Option.map_some, Option.some.injEq] at hu
  rw [hu]

set_option maxRecDepth 100000 in
theorem run_append_hds (w : World) (ty : TypeId) (base : Nat) (v : Value) (n : Nat) (xs ys : List Hd) (hn : n = xs.length) (hown : OwnH w base v xs) (A : Option Addr) (m c : Nat) (hm : m = ys.length)
    (hsrc : m = 0 ∨ ∃ b off, A = some ⟨b, off, none⟩ ∧ HdsIn w b off ys) (hbig : n + m ≤ 4194304) (hbase : base ≤ w.heap.size) :
    ∃ a' c' w', (Builtin.append_ #[50, 50] ty #[v, .slice A m c]).run Try.prog w = .ok (.slice a' (n + m) c') w' ∧ OwnH w' base (.slice a' (n + m) c') (xs ++ ys) ∧ w.grownBy w' v.ownBlock ∧
      ((Value.slice a' (n + m) c').ownBlock = v.ownBlock ∨ (Value.slice a' (n + m) c').ownBlock = some w.heap.size) := by
  obtain ⟨i0, hi0, hi1, hi2, hi3⟩ := info_parts info_row
  subst hn hm
  have hform : ∀ (W : World) (u : Value) (zs : List Hd), OwnH W base u zs → ∃ a' c', u = .slice a' zs.length c' := fun W u zs h => by
    obtain ⟨a', c', h1, _, _⟩ := h.newH
    exact ⟨a', c', h1⟩
  rcases A with _ | ad
  · have h0 : ys = [] := by
      rcases hsrc with h | ⟨b, off, h, _⟩
      · exact List.eq_nil_of_length_eq_zero h
      · cases h
    subst h0
    obtain ⟨a', c', rfl⟩ := hform _ _ _ hown
    refine ⟨a', c', w, ?_, by simpa using hown, World.grownBy.refl w _, .inl rfl⟩
    rcases hown.2 with ⟨h1, h2⟩ | ⟨g, cap, cur, h1, _, _, hnc, _⟩
    · injection h1 with e1 e2 e3
      subst e1 e3
      simp [Builtin.append_, run_underlying Try.underlying50, sizeOf, typeInfo, hi0, Builtin.lenOf, Builtin.firstCells, h2]
    · injection h1 with e1 e2 e3
      subst e1 e3
      simp [Builtin.append_, run_underlying Try.underlying50, sizeOf, typeInfo, hi0, Builtin.lenOf, Builtin.firstCells, hnc, storeCells]
  · have hnews : ∀ j u, (cellsH ys)[j]? = some u → w.cell? (ad.add j) = some u := fun j u hu => by
      rcases hsrc with h | ⟨b, off, h, ht⟩
      · have e : ys = [] := List.eq_nil_of_length_eq_zero h
        subst e
        simp [cellsH] at hu
      · cases h
        exact hds_news ht j u hu
    obtain ⟨v', w', hr, h2, h3, _, h5⟩ := run_append_own_at (P := Try.prog) w base 50 ty 79 i0 _ 1 24 Try.underlying50 hi0 hi1 hi2 hi3 rfl (by omega) v xs.length (cellsH xs) hown ad ys.length c (cellsH ys) (by simp [cellsH]) hnews (cellsH_oneCell ys) (by unfold maxLen; omega) (by omega) hbase
    have hO : OwnH w' base v' (xs ++ ys) := by
      unfold OwnH
      rw [List.length_append, cellsH_append]
      exact h2
    obtain ⟨a', c', rfl⟩ := hform _ _ _ hO
    rw [List.length_append] at hr hO h5
    exact ⟨a', c', w', hr, hO, h3, h5⟩

theorem wpList_append_hds {ops : Array Oper} {rest : List Oper} {o : Oper} {a : Act} {w : World} {Q : Exit → Act → World → Prop} (hgd : o.guard = none) (s x : Operand)
    (ho : o.op = .call { callee := .builtin .append, args := #[s, x], argTypes := #[50, 50] })
    (base : Nat) (v : Value) (n : Nat) (xs ys : List Hd) (hs : a.eval s = v) (hn : n = xs.length) (hown : OwnH w base v xs) (A : Option Addr) (m c : Nat) (hx : a.eval x = .slice A m c) (hm : m = ys.length)
    (hsrc : m = 0 ∨ ∃ b off, A = some ⟨b, off, none⟩ ∧ HdsIn w b off ys) (hbig : n + m ≤ 4194304) (hbase : base ≤ w.heap.size)
    (h : ∀ a' c' w', OwnH w' base (.slice a' (n + m) c') (xs ++ ys) → w.grownBy w' v.ownBlock → ((Value.slice a' (n + m) c').ownBlock = v.ownBlock ∨ (Value.slice a' (n + m) c').ownBlock = some w.heap.size) → wpList Try.prog ops Q rest (a.put o.dst (.slice a' (n + m) c')) w') :
    wpList Try.prog ops Q (o :: rest) a w := by
  refine wpList_plain hgd fun K hK => ?_
  obtain ⟨a', c', w', hr, h2, h3, h4⟩ := run_append_hds w o.type base v n xs ys hn hown A m c hm hsrc hbig hbase
  unfold Oper.wp execOp
  simp only [ho, resolve, invoke, builtin, Sem.run_bind, Sem.run_pure, Result.andThen_ok, List.map_toArray, List.map_cons, List.map_nil, hs, hx, hr]
  exact hK _ _ (h a' c' w' h2 h3 h4)

theorem hds_one (w : World) (s : Hd) : HdsIn (w.alloc (.cells #[.slice s.a s.n s.c] 79)) w.heap.size 0 [s] := fun i hi => by
  have h0 : i = 0 := by simpa using hi
  subst h0
  simp [go_sem]
theorem OwnH.one (w : World) (s : Hd) : OwnH (w.alloc (.cells #[.slice s.a s.n s.c] 79)) w.heap.size (.slice (some ⟨w.heap.size, 0, none⟩) 1 1) [s] :=
  ⟨rfl, .inr ⟨w.heap.size, 1, #[.slice s.a s.n s.c], rfl, Nat.le_refl _, heap_alloc_new w _, Nat.le_refl _, by unfold maxLen; omega, rfl, rfl⟩⟩
theorem own_grownH {B : Nat} {w w' : World} {v : Value} {ss : List Hd} (hO : OwnH w B v ss) (hg : w.grownBy w' v.ownBlock) (hB : B ≤ w.heap.size) : Below B w w' := below_of_grown hg (fun g h => (hO.lt g h).1) hB

theorem OwnH.at_ {w : World} {base : Nat} {a : Option Addr} {l c : Nat} {ss : List Hd} (h : OwnH w base (.slice a l c) ss) : l = ss.length ∧ NewH base w.heap.size w a ss := by
  obtain ⟨a', c', he, hle, hN⟩ := h.newH
  injection he with e1 e2 e3
  subst e1 e3
  exact ⟨e2, hN⟩
theorem OwnH.grown {base : Nat} {w w' : World} {v : Value} {ss : List Hd} {r : Option Nat} (h : OwnH w base v ss) (hg : w.grownBy w' r) (hr : ∀ g, v.ownBlock = some g → some g ≠ r) : OwnH w' base v ss := by
  have hlt := h.lt
  rcases h with ⟨hl, h⟩
  refine ⟨hl, ?_⟩
  rcases h with h | ⟨g, cap, cur, rfl, hbg, hgg, rest⟩
  · exact .inl h
  · exact .inr ⟨g, cap, cur, rfl, hbg, by rw [hg.block g (hlt g rfl).2 (hr g rfl)]; exact hgg, rest⟩

/-- the rows behind the headers -/
def HRows (lo hi : Nat) (w : World) (hs : List Hd) (ps : List (List Int)) : Prop := hs.length = ps.length ∧ ∀ i (h : i < ps.length) (h' : i < hs.length), (hs[i]).n = (ps[i]).length ∧ IRow lo hi w (hs[i]).a ps[i]
theorem HRows.below {lo hi B : Nat} {w w' : World} {hs : List Hd} {ps : List (List Int)} (h : HRows lo hi w hs ps) (hb : Below B w w') (hh : hi ≤ B) : HRows lo hi w' hs ps := ⟨h.1, fun i a b => ⟨(h.2 i a b).1, (h.2 i a b).2.below hb hh⟩⟩
theorem HRows.mono {lo hi lo' hi' : Nat} {w : World} {hs : List Hd} {ps : List (List Int)} (h : HRows lo hi w hs ps) (h1 : lo' ≤ lo) (h2 : hi ≤ hi') : HRows lo' hi' w hs ps := ⟨h.1, fun i a b => ⟨(h.2 i a b).1, (h.2 i a b).2.mono h1 h2⟩⟩
theorem HRows.append {lo hi : Nat} {w : World} {hs ks : List Hd} {ps qs : List (List Int)} (h : HRows lo hi w hs ps) (k : HRows lo hi w ks qs) : HRows lo hi w (hs ++ ks) (ps ++ qs) := by
  refine ⟨by simp [h.1, k.1], fun i a b => ?_⟩
  by_cases hlt : i < ps.length
  · have hlt' : i < hs.length := by rw [h.1]; exact hlt
    rw [List.getElem_append_left hlt', List.getElem_append_left hlt]
    exact h.2 i hlt hlt'
  · have hge : ps.length ≤ i := by omega
    have hge' : hs.length ≤ i := by rw [h.1]; exact hge
    rw [List.getElem_append_right hge', List.getElem_append_right hge]
    have e : i - hs.length = i - ps.length := by rw [h.1]
    have hq : i - ps.length < qs.length := by rw [List.length_append] at a; omega
    have := k.2 (i - ps.length) hq (by rw [k.1]; exact hq)
    simpa only [e] using this
theorem PRow.hds {lo hi : Nat} {w : World} {a : Option Addr} {ps : List (List Int)} (h : PRow lo hi w a ps) : ∃ hs : List Hd, HRows lo hi w hs ps ∧ (hs.length = 0 ∨ ∃ b off, a = some ⟨b, off, none⟩ ∧ lo ≤ b ∧ b < hi ∧ HdsIn w b off hs) := by
  rcases h with rfl | ⟨b, off, e, h1, h2, h3⟩
  · exact ⟨[], ⟨rfl, fun _ a => absurd a (Nat.not_lt_zero _)⟩, .inl rfl⟩
  · have key : ∀ k, k ≤ ps.length → ∃ hs : List Hd, hs.length = k ∧ ∀ i (h : i < hs.length) (h' : i < ps.length), w.cell? ⟨b, off + i, none⟩ = some (.slice (hs[i]).a (hs[i]).n (hs[i]).c) ∧ (hs[i]).n = (ps[i]).length ∧ IRow lo hi w (hs[i]).a ps[i] := by
      intro k hk
      induction k with
      | zero => exact ⟨[], rfl, fun _ hi => absurd hi (Nat.not_lt_zero _)⟩
      | succ k ih =>
        obtain ⟨hs, hl, hh⟩ := ih (by omega)
        obtain ⟨a', c, q1, q2⟩ := h3 k (by omega)
        refine ⟨hs ++ [⟨a', (ps[k]).length, c⟩], by simp [hl], fun i hi hi' => ?_⟩
        by_cases hlt : i < hs.length
        · rw [List.getElem_append_left hlt]; exact hh i hlt hi'
        · have : i = k := by rw [List.length_append] at hi; simp at hi; omega
          subst this
          rw [List.getElem_append_right (by omega)]
          simp only [hl, Nat.sub_self, List.getElem_singleton]
          exact ⟨q1, by trivial, q2⟩
    obtain ⟨hs, hl, hh⟩ := key ps.length (Nat.le_refl _)
    exact ⟨hs, ⟨hl, fun i hi hi' => (hh i hi' hi).2⟩, .inr ⟨b, off, e, h1, h2, fun i hi => (hh i hi (by omega)).1⟩⟩
theorem HRows.path {lo hi : Nat} {w : World} {a : Option Addr} {hs : List Hd} {ps : List (List Int)} (h : HRows lo hi w hs ps) {b off : Nat} (ha : a = some ⟨b, off, none⟩) (h1 : lo ≤ b) (h2 : b < hi) (h3 : HdsIn w b off hs) : PRow lo hi w a ps :=
  .inr ⟨b, off, ha, h1, h2, fun i hi => by
    have hi' : i < hs.length := by rw [h.1]; exact hi
    obtain ⟨q1, q2⟩ := h.2 i hi hi'
    exact ⟨(hs[i]).a, (hs[i]).c, by rw [h3 i hi', q1], q2⟩⟩

/-- the value owns a path: the headers, and the rows, which are new, apart from each other and from the headers -/
def OwnP (w : World) (base : Nat) (v : Value) (ps : List (List Int)) : Prop :=
  ∃ hs : List Hd, OwnH w base v hs ∧ hs.length = ps.length ∧
    (∀ i (h : i < ps.length) (h' : i < hs.length), (hs[i]).n = (ps[i]).length ∧ NewI base w.heap.size w (hs[i]).a ps[i] ∧ (ps[i] ≠ [] → ∀ g, v.ownBlock = some g → (hs[i]).a ≠ some ⟨g, 0, none⟩)) ∧
    ∀ i j (hi : i < ps.length) (hj : j < ps.length) (hi' : i < hs.length) (hj' : j < hs.length), i ≠ j → ps[i] ≠ [] → ps[j] ≠ [] → (hs[i]).a ≠ (hs[j]).a
theorem OwnP.nil (w : World) (base : Nat) : OwnP w base (.slice none 0 0) [] := ⟨[], OwnH.nil _ _, rfl, fun _ h => absurd h (Nat.not_lt_zero _), fun _ _ h => absurd h (Nat.not_lt_zero _)⟩
theorem OwnP.emptyRow {w : World} {base g : Nat} (h : w.heap[g]? = some (.cells #[] 79 (0, 0))) (hb : base ≤ g) : OwnP w base (.slice (some ⟨g, 0, none⟩) 0 0) [] := ⟨[], OwnH.emptyRow h hb, rfl, fun _ h => absurd h (Nat.not_lt_zero _), fun _ _ h => absurd h (Nat.not_lt_zero _)⟩
theorem OwnP.lt {base : Nat} {w : World} {v : Value} {ps : List (List Int)} (h : OwnP w base v ps) : ∀ g, v.ownBlock = some g → base ≤ g ∧ g < w.heap.size := by
  obtain ⟨hs, h1, _⟩ := h
  exact h1.lt
theorem OwnP.below {base : Nat} {w w' : World} {v : Value} {ps : List (List Int)} (h : OwnP w base v ps) (hb : Below w.heap.size w w') : OwnP w' base v ps := by
  obtain ⟨hs, h1, h2, h3, h4⟩ := h
  exact ⟨hs, h1.below hb (fun g hg => (h1.lt g hg).2), h2, fun i a b => ⟨(h3 i a b).1, ((h3 i a b).2.1.below hb (Nat.le_refl _)).mono (Nat.le_refl _) hb.size, (h3 i a b).2.2⟩, h4⟩
theorem OwnP.form {base : Nat} {w : World} {v : Value} {ps : List (List Int)} (h : OwnP w base v ps) : ∃ a c, v = .slice a ps.length c := by
  obtain ⟨hs, h1, h2, _⟩ := h
  obtain ⟨a, c, e, _, _⟩ := h1.newH
  exact ⟨a, c, by rw [e, h2]⟩
theorem OwnP.at_ {base : Nat} {w : World} {a : Option Addr} {l c : Nat} {ps : List (List Int)} (h : OwnP w base (.slice a l c) ps) : l = ps.length ∧ NewP base w.heap.size w a ps := by
  obtain ⟨hs, h1, h2, h3, h4⟩ := h
  obtain ⟨e, hN⟩ := h1.at_
  refine ⟨by rw [e, h2], ?_⟩
  rcases hN with h0 | ⟨g, ea, b1, b2, hM, hI⟩
  · subst h0
    exact .inl (List.eq_nil_of_length_eq_zero (by simpa using h2.symm))
  · subst ea
    refine .inr ⟨g, fun i => (hs.getD i ⟨none, 0, 0⟩).a, fun i => (hs.getD i ⟨none, 0, 0⟩).c, rfl, b1, b2, by rw [← h2]; exact hM, fun i hi => ?_, fun i j hi hj hne p q => ?_⟩
    · have hi' : i < hs.length := by rw [h2]; exact hi
      obtain ⟨q1, q2, q3⟩ := h3 i hi hi'
      have e2 : hs.getD i ⟨none, 0, 0⟩ = hs[i] := by rw [List.getD_eq_getElem?_getD, List.getElem?_eq_getElem hi']; rfl
      dsimp only
      rw [e2]
      have hc := hI i hi'
      rw [Nat.zero_add, q1] at hc
      exact ⟨hc, q2, fun p => q3 p g rfl⟩
    · have hi' : i < hs.length := by rw [h2]; exact hi
      have hj' : j < hs.length := by rw [h2]; exact hj
      have e1 : hs.getD i ⟨none, 0, 0⟩ = hs[i] := by rw [List.getD_eq_getElem?_getD, List.getElem?_eq_getElem hi']; rfl
      have e2 : hs.getD j ⟨none, 0, 0⟩ = hs[j] := by rw [List.getD_eq_getElem?_getD, List.getElem?_eq_getElem hj']; rfl
      dsimp only
      rw [e1, e2]
      exact h4 i j hi hj hi' hj' hne p q
theorem OwnP.row {base : Nat} {w : World} {a : Option Addr} {l c : Nat} {ps : List (List Int)} (h : OwnP w base (.slice a l c) ps) : PRow base w.heap.size w a ps := h.at_.2.row

/-- what appending a new row to an owned path leaves: `w` is the world ahead of the append, in which the row already lies -/
theorem OwnP.snoc {base B : Nat} {w0 w w' : World} {v v' : Value} {ps : List (List Int)} {hs : List Hd} {z : List Int} {a : Option Addr} {c : Nat}
    (h0 : OwnH w0 base v hs) (hlen : hs.length = ps.length)
    (h3 : ∀ i (h : i < ps.length) (h' : i < hs.length), (hs[i]).n = (ps[i]).length ∧ NewI base w0.heap.size w0 (hs[i]).a ps[i] ∧ (ps[i] ≠ [] → ∀ g, v.ownBlock = some g → (hs[i]).a ≠ some ⟨g, 0, none⟩))
    (h4 : ∀ i j (hi : i < ps.length) (hj : j < ps.length) (hi' : i < hs.length) (hj' : j < hs.length), i ≠ j → ps[i] ≠ [] → ps[j] ≠ [] → (hs[i]).a ≠ (hs[j]).a)
    (hb : Below w0.heap.size w0 w) (hz : NewI w0.heap.size B w a z) (hB : B ≤ w.heap.size) (hbase : base ≤ w0.heap.size)
    (hO : OwnH w' base v' (hs ++ [⟨a, z.length, c⟩])) (hg : w.grownBy w' v.ownBlock) (hv : v'.ownBlock = v.ownBlock ∨ v'.ownBlock = some w.heap.size) : OwnP w' base v' (ps ++ [z]) := by
  have hvlt : ∀ g, v.ownBlock = some g → g < w0.heap.size := fun g hg => (h0.lt g hg).2
  -- a row that lay in w, apart from the headers' block, lies in w'
  have keep : ∀ (x : Option Addr) (r : List Int), NewI base w.heap.size w x r → (r ≠ [] → ∀ g, v.ownBlock = some g → x ≠ some ⟨g, 0, none⟩) → NewI base w'.heap.size w' x r := fun x r hx hne => by
    rcases hx with hx | ⟨g, e, b1, b2, b3, b4⟩
    · exact .inl hx
    · by_cases hr : r = []
      · exact .inl hr
      · exact (NewI.aside (.inr ⟨g, e, b1, Nat.lt_of_lt_of_le b2 hg.size, b3, b4⟩) hg (fun q hq _ => hne hr q hq))
  have oldI : ∀ i (h : i < ps.length) (h' : i < hs.length), NewI base w.heap.size w (hs[i]).a ps[i] := fun i h h' => ((h3 i h h').2.1.below hb (Nat.le_refl _)).mono (Nat.le_refl _) hb.size
  have oldlt : ∀ i (h : i < ps.length) (h' : i < hs.length), ps[i] ≠ [] → ∀ g, (hs[i]).a = some ⟨g, 0, none⟩ → g < w0.heap.size := fun i h h' hne g hg => by
    rcases (h3 i h h').2.1 with hx | ⟨q, e, b1, b2, _⟩
    · exact absurd hx hne
    · rw [e] at hg; injection hg with hg; injection hg with hg; omega
  have newge : z ≠ [] → ∀ g, a = some ⟨g, 0, none⟩ → w0.heap.size ≤ g ∧ g < w.heap.size := fun hne g hg => by
    rcases hz with hx | ⟨q, e, b1, b2, _⟩
    · exact absurd hx hne
    · rw [e] at hg; injection hg with hg; injection hg with hg; omega
  have newform : z ≠ [] → ∃ g, a = some ⟨g, 0, none⟩ := fun hne => by
    rcases hz with hx | ⟨q, e, _⟩
    · exact absurd hx hne
    · exact ⟨q, e⟩
  have out' : ∀ g, v'.ownBlock = some g → v.ownBlock = some g ∨ g = w.heap.size := fun g hg => by
    rcases hv with e | e
    · exact .inl (by rw [← e]; exact hg)
    · rw [e] at hg; injection hg with hg; exact .inr hg.symm
  refine ⟨hs ++ [⟨a, z.length, c⟩], hO, by simp [hlen], fun i h h' => ?_, fun i j hi hj hi' hj' hne p q => ?_⟩
  · by_cases hlt : i < ps.length
    · have hlt' : i < hs.length := by omega
      rw [List.getElem_append_left hlt', List.getElem_append_left hlt]
      obtain ⟨q1, q2, q3⟩ := h3 i hlt hlt'
      refine ⟨q1, keep _ _ (oldI i hlt hlt') q3, fun hne g hg e => ?_⟩
      rcases out' g hg with e2 | e2
      · exact q3 hne g e2 e
      · have := oldlt i hlt hlt' hne g e
        have := hb.size
        omega
    · have e1 : i = ps.length := by rw [List.length_append] at h; simp at h; omega
      subst e1
      rw [List.getElem_append_right (by omega), List.getElem_append_right (Nat.le_refl _)]
      simp only [hlen, Nat.sub_self, List.getElem_singleton]
      refine ⟨trivial, keep _ _ ((hz.mono hbase hB)) (fun hne g hg e => ?_), fun hne g hg e => ?_⟩
      · have := newge hne g e
        have := hvlt g hg
        omega
      · rcases out' g hg with e2 | e2
        · have := newge hne g e
          have := hvlt g e2
          omega
        · have := newge hne g e
          omega
  · have hN : ∀ k (hk : k < (ps ++ [z]).length) (hk' : k < (hs ++ [(⟨a, z.length, c⟩ : Hd)]).length), ¬ k < ps.length → (ps ++ [z])[k] = z ∧ ((hs ++ [(⟨a, z.length, c⟩ : Hd)])[k]).a = a := fun k hk hk' hge => by
      have e1 : k = ps.length := by rw [List.length_append] at hk; simp at hk; omega
      subst e1
      rw [List.getElem_append_right (Nat.le_refl _), List.getElem_append_right (by omega)]
      simp [hlen]
    by_cases hi1 : i < ps.length
    · have hi2 : i < hs.length := by omega
      rw [List.getElem_append_left hi1] at p
      rw [List.getElem_append_left hi2]
      by_cases hj1 : j < ps.length
      · have hj2 : j < hs.length := by omega
        rw [List.getElem_append_left hj1] at q
        rw [List.getElem_append_left hj2]
        exact h4 i j hi1 hj1 hi2 hj2 hne p q
      · obtain ⟨ez, ea⟩ := hN j hj hj' hj1
        rw [ez] at q
        rw [ea]
        obtain ⟨g, eg⟩ := newform q
        intro e
        rw [eg] at e
        have := oldlt i hi1 hi2 p g e
        have := newge q g eg
        omega
    · obtain ⟨ez, ea⟩ := hN i hi hi' hi1
      rw [ez] at p
      rw [ea]
      have hj1 : j < ps.length := by
        rw [List.length_append] at hi hj; simp at hi hj; omega
      have hj2 : j < hs.length := by omega
      rw [List.getElem_append_left hj1] at q
      rw [List.getElem_append_left hj2]
      obtain ⟨g, eg⟩ := newform p
      intro e
      rw [eg] at e
      have := oldlt j hj1 hj2 q g e.symm
      have := newge p g eg
      omega
end Go.Proofs.Ytknigggjnjkhbaa

namespace Go.Proofs.Ytknigggjnjkhbaa
open Go.RowKit

/-- what a function that returns a path and a code comes to -/
def PathPost (qs : List (List Int)) (c : Int) (W : World) (e : Ending) (w' : World) : Prop :=
  ∃ (a : Option Addr) (cap : Nat), e = .returned (.tuple #[.slice a qs.length cap, .int .i64 c]) ∧ Below W.heap.size W w' ∧ NewP W.heap.size w'.heap.size w' a qs

theorem wpList_append_path {ops : Array Oper} {rest : List Oper} {o : Oper} {act : Act} {Q : Exit → Act → World → Prop} (hgd : o.guard = none) (s x : Operand)
    (ho : o.op = .call { callee := .builtin .append, args := #[s, x], argTypes := #[50, 50] })
    (base : Nat) (w0 w : World) (b : Option Addr) (l c : Nat) (ps : List (List Int)) (z : List Int) (a : Option Addr) (n k : Nat) (hs : act.eval s = .slice b l c) (hl : l = ps.length) (hown : OwnP w0 base (.slice b l c) ps) (hb : Below w0.heap.size w0 w)
    (hz : NewI w0.heap.size w.heap.size w a z) (hn : n = z.length) (hx : act.eval x = .slice (some ⟨w.heap.size, 0, none⟩) 1 1) (hbig : l + 1 ≤ 4194304) (hbase : base ≤ w0.heap.size)
    (h : ∀ a' c' w', OwnP w' base (.slice a' (l + 1) c') (ps ++ [z]) → Below base w w' → w.heap.size ≤ w'.heap.size → wpList Try.prog ops Q rest (act.put o.dst (.slice a' (l + 1) c')) w') :
    wpList Try.prog ops Q (o :: rest) act (w.alloc (.cells #[.slice a n k] 79)) := by
  obtain ⟨hds, h1, h2, h3, h4⟩ := hown
  subst hn
  have hbw := hb.trans ((below1 w (.cells #[.slice a z.length k] 79)).mono hb.size)
  refine wpList_append_hds hgd s x ho base (.slice b l c) l hds [⟨a, z.length, k⟩] hs (by rw [h2]; exact hl) (h1.below hbw (fun g hg => (h1.lt g hg).2)) (some ⟨w.heap.size, 0, none⟩) 1 1 hx rfl (.inr ⟨w.heap.size, 0, rfl, hds_one w ⟨a, z.length, k⟩⟩) hbig (by have := hb.size; simp; omega) fun a' c' w' hO hG hv => ?_
  refine h a' c' w' (OwnP.snoc (B := w.heap.size) h1 h2 h3 h4 hbw (hz.below (below1 w _) (Nat.le_refl _)) (by simp) hbase hO hG hv) ?_ ?_
  · exact ((below1 w (.cells #[.slice a z.length k] 79)).mono (by have := hb.size; omega)).trans (below_of_grown hG (fun g hg => (h1.lt g hg).1) (by have := hb.size; simp; omega))
  · have h9 := hG.size
    rw [World.size_alloc] at h9
    omega

def timesI (k : Int) (z : List Int) : List Int := z.map fun x => k * x
theorem timesI_length (k : Int) (z : List Int) : (timesI k z).length = z.length := by simp [timesI]

/-- the first numbers of a move -/
def stepOf (D : Nat) (v : Mv) : List Int := [v.a, v.b, v.c].take D
theorem stepOf_length {D : Nat} (h : D ≤ 3) (v : Mv) : (stepOf D v).length = D := by simp [stepOf]; omega
theorem stepOf_of {D : Nat} (h : D ≤ 3) {z : List Int} (hz : z.length = D) : stepOf D (mvOf z) = z := by
  apply List.ext_getElem
  · rw [stepOf_length h, hz]
  · intro i h1 h2
    have hi : i = 0 ∨ i = 1 ∨ i = 2 := by omega
    simp only [stepOf, List.getElem_take, mvOf]
    rcases hi with rfl | rfl | rfl <;> simp [List.getElem?_eq_getElem h2]
theorem flat_steps {D : Nat} (h : D ≤ 3) : ∀ ms : List Mv, flat (ms.map (stepOf D)) = D * ms.length
  | [] => by simp [flat]
  | v :: r => by simp only [List.map_cons, flat, stepOf_length h, flat_steps h r, List.length_cons, Nat.mul_add]; omega

/-- what a function that returns new rows comes to -/
def RowsPost (qs : List (List Int)) (W : World) (e : Ending) (w' : World) : Prop :=
  ∃ (a : Option Addr) (cap : Nat), e = .returned (.slice a qs.length cap) ∧ Below W.heap.size W w' ∧ NewP W.heap.size w'.heap.size w' a qs
end Go.Proofs.Ytknigggjnjkhbaa
