/-
  Rows of headers of rows of fractions: owned, appended to.
-/
import Derived.Test.YtknigggjnjkhbaaPathRes
namespace Go.Proofs.Ytknigggjnjkhbaa
open Go.RowKit
theorem info_rowF : (Try.prog.info? 65).map (fun i => (i.zero, i.size, i.bytes)) = some (some (.slice none 0 0), 1, 24) := by kernel_rfl
/-- the value owns the words, in a row from the block `base` on -/
def OwnHF (w : World) (base : Nat) (v : Value) (ss : List Hd) : Prop := w.ownsRow base 65 1 v ss.length (cellsH ss)
theorem OwnHF.nil (w : World) (base : Nat) : OwnHF w base (.slice none 0 0) [] := World.ownsRow_nil w base _ 1
theorem OwnHF.newH {w : World} {base : Nat} {v : Value} {ss : List Hd} (h : OwnHF w base v ss) : ∃ a cap, v = .slice a ss.length cap ∧ ss.length ≤ cap ∧ NewH base w.heap.size w a ss := by
  rcases h.2 with ⟨rfl, h0⟩ | ⟨g, cap, cur, rfl, hbg, hg, hnc, hcm, hcs, htake⟩
  · have e : ss = [] := List.eq_nil_of_length_eq_zero h0
    subst e
    exact ⟨none, 0, rfl, Nat.le_refl _, .inl rfl⟩
  · have hlt : g < w.heap.size := by
      rcases Nat.lt_or_ge g w.heap.size with hlt | hge
      · exact hlt
      · rw [Array.getElem?_eq_none hge] at hg; cases hg
    have hcell : ∀ j, w.cell? ⟨g, j, none⟩ = cur[j]? := fun j => cell_of_row w g j cur _ (0, 0) hg
    have hsz : ss.length ≤ cur.size := by rw [hcs]; omega
    have hat : ∀ j, j < ss.length → cur[j]? = (cellsH ss)[j]? := fun j hj => by
      rw [← htake, List.getElem?_take, if_pos (by omega)]; simp
    refine ⟨some ⟨g, 0, none⟩, cap, rfl, hnc, .inr ⟨g, rfl, hbg, hlt, ⟨hlt, fun j hj => ⟨?_, ?_⟩⟩, fun i hi => ?_⟩⟩
    · exact ⟨cur[j]'(by omega), by rw [hcell]; exact Array.getElem?_eq_getElem (by omega)⟩
    · simp [World.frozen?, hg]
    · rw [hcell, Nat.zero_add, hat i hi]
      simp [cellsH, List.getElem?_eq_getElem hi]
theorem OwnHF.below {B base : Nat} {w w' : World} {v : Value} {ss : List Hd} (h : OwnHF w base v ss) (hb : Below B w w') (hv : ∀ g, v.ownBlock = some g → g < B) : OwnHF w' base v ss := by
  rcases h with ⟨hl, h⟩
  refine ⟨hl, ?_⟩
  rcases h with h | ⟨g, cap, cur, rfl, hbg, hg, rest⟩
  · exact .inl h
  · exact .inr ⟨g, cap, cur, rfl, hbg, by rw [hb.block g (hv g rfl)]; exact hg, rest⟩
theorem OwnHF.lt {base : Nat} {w : World} {v : Value} {ss : List Hd} (h : OwnHF w base v ss) : ∀ g, v.ownBlock = some g → base ≤ g ∧ g < w.heap.size := fun g hv => by
  rcases h.2 with ⟨rfl, h0⟩ | ⟨g', cap, cur, rfl, hbg, hg, hnc, hcm, hcs, htake⟩
  · simp [Value.ownBlock] at hv
  · have e : g' = g := by simpa [Value.ownBlock] using hv
    subst e
    refine ⟨hbg, ?_⟩
    rcases Nat.lt_or_ge g' w.heap.size with hlt | hge
    · exact hlt
    · rw [Array.getElem?_eq_none hge] at hg; cases hg
theorem OwnHF.far {base : Nat} {w : World} {v : Value} {ss : List Hd} (h : OwnHF w base v ss) {p : Addr} (hp : v.ownBlock ≠ some p.block) (u : Value) : OwnHF (w.setCell p u) base v ss := by
  rcases h with ⟨hl, h⟩
  refine ⟨hl, ?_⟩
  rcases h with h | ⟨g, cap, cur, rfl, hbg, hg, rest⟩
  · exact .inl h
  · refine .inr ⟨g, cap, cur, rfl, hbg, ?_, rest⟩
    rw [Below.heap_setCell w p u g (fun e => hp (by rw [← e]; rfl))]; exact hg
theorem OwnHF.alloc {base : Nat} {w : World} {v : Value} {ss : List Hd} (h : OwnHF w base v ss) (o : Obj) : OwnHF (w.alloc o) base v ss :=
  h.below (below1 w o) (fun g hg => (h.lt g hg).2)
theorem OwnHF.emptyRow {w : World} {base g : Nat} (h : w.heap[g]? = some (.cells #[] 65 (0, 0))) (hb : base ≤ g) : OwnHF w base (.slice (some ⟨g, 0, none⟩) 0 0) [] :=
  ⟨rfl, .inr ⟨g, 0, #[], rfl, hb, h, Nat.le_refl _, Nat.zero_le _, rfl, rfl⟩⟩
theorem OwnHF.mono {w : World} {base base' : Nat} {v : Value} {ss : List Hd} (h : OwnHF w base v ss) (hb : base' ≤ base) : OwnHF w base' v ss := by
  rcases h with ⟨hl, h | ⟨g, cap, cur, rfl, hbg, rest⟩⟩
  · exact ⟨hl, .inl h⟩
  · exact ⟨hl, .inr ⟨g, cap, cur, rfl, Nat.le_trans hb hbg, rest⟩⟩
set_option maxRecDepth 100000 in
theorem run_append_hdsF (w : World) (ty : TypeId) (base : Nat) (v : Value) (n : Nat) (xs ys : List Hd) (hn : n = xs.length) (hown : OwnHF w base v xs) (A : Option Addr) (m c : Nat) (hm : m = ys.length)
    (hsrc : m = 0 ∨ ∃ b off, A = some ⟨b, off, none⟩ ∧ HdsIn w b off ys) (hbig : n + m ≤ 4194304) (hbase : base ≤ w.heap.size) :
    ∃ a' c' w', (Builtin.append_ #[28, 28] ty #[v, .slice A m c]).run Try.prog w = .ok (.slice a' (n + m) c') w' ∧ OwnHF w' base (.slice a' (n + m) c') (xs ++ ys) ∧ w.grownBy w' v.ownBlock ∧
      ((Value.slice a' (n + m) c').ownBlock = v.ownBlock ∨ (Value.slice a' (n + m) c').ownBlock = some w.heap.size) := by
  obtain ⟨i0, hi0, hi1, hi2, hi3⟩ := info_parts info_rowF
  subst hn hm
  have hform : ∀ (W : World) (u : Value) (zs : List Hd), OwnHF W base u zs → ∃ a' c', u = .slice a' zs.length c' := fun W u zs h => by
    obtain ⟨a', c', h1, _, _⟩ := h.newH
    exact ⟨a', c', h1⟩
  rcases A with _ | ad
  · have h0 : ys = [] := by
      rcases hsrc with h | ⟨b, off, h, _⟩
      · exact List.eq_nil_of_length_eq_zero h
      · cases h
    subst h0
    obtain ⟨a', c', rfl⟩ := hform _ _ _ hown
    refine ⟨a', c', w, ?_, by simpa using hown, World.grownBy.refl w _, .inl rfl⟩
    rcases hown.2 with ⟨h1, h2⟩ | ⟨g, cap, cur, h1, _, _, hnc, _⟩
    · injection h1 with e1 e2 e3
      subst e1 e3
      simp [Builtin.append_, run_underlying Try.underlying28, sizeOf, typeInfo, hi0, Builtin.lenOf, Builtin.firstCells, h2]
    · injection h1 with e1 e2 e3
      subst e1 e3
      simp [Builtin.append_, run_underlying Try.underlying28, sizeOf, typeInfo, hi0, Builtin.lenOf, Builtin.firstCells, hnc, storeCells]
  · have hnews : ∀ j u, (cellsH ys)[j]? = some u → w.cell? (ad.add j) = some u := fun j u hu => by
      rcases hsrc with h | ⟨b, off, h, ht⟩
      · have e : ys = [] := List.eq_nil_of_length_eq_zero h
        subst e
        simp [cellsH] at hu
      · cases h
        exact hds_news ht j u hu
    obtain ⟨v', w', hr, h2, h3, _, h5⟩ := run_append_own_at (P := Try.prog) w base 28 ty 65 i0 _ 1 24 Try.underlying28 hi0 hi1 hi2 hi3 rfl (by omega) v xs.length (cellsH xs) hown ad ys.length c (cellsH ys) (by simp [cellsH]) hnews (cellsH_oneCell ys) (by unfold maxLen; omega) (by omega) hbase
    have hO : OwnHF w' base v' (xs ++ ys) := by
      unfold OwnHF
      rw [List.length_append, cellsH_append]
      exact h2
    obtain ⟨a', c', rfl⟩ := hform _ _ _ hO
    rw [List.length_append] at hr hO h5
    exact ⟨a', c', w', hr, hO, h3, h5⟩

theorem wpList_append_hdsF {ops : Array Oper} {rest : List Oper} {o : Oper} {a : Act} {w : World} {Q : Exit → Act → World → Prop} (hgd : o.guard = none) (s x : Operand)
    (ho : o.op = .call { callee := .builtin .append, args := #[s, x], argTypes := #[28, 28] })
    (base : Nat) (v : Value) (n : Nat) (xs ys : List Hd) (hs : a.eval s = v) (hn : n = xs.length) (hown : OwnHF w base v xs) (A : Option Addr) (m c : Nat) (hx : a.eval x = .slice A m c) (hm : m = ys.length)
    (hsrc : m = 0 ∨ ∃ b off, A = some ⟨b, off, none⟩ ∧ HdsIn w b off ys) (hbig : n + m ≤ 4194304) (hbase : base ≤ w.heap.size)
    (h : ∀ a' c' w', OwnHF w' base (.slice a' (n + m) c') (xs ++ ys) → w.grownBy w' v.ownBlock → ((Value.slice a' (n + m) c').ownBlock = v.ownBlock ∨ (Value.slice a' (n + m) c').ownBlock = some w.heap.size) → wpList Try.prog ops Q rest (a.put o.dst (.slice a' (n + m) c')) w') :
    wpList Try.prog ops Q (o :: rest) a w := by
  refine wpList_plain hgd fun K hK => ?_
  obtain ⟨a', c', w', hr, h2, h3, h4⟩ := run_append_hdsF w o.type base v n xs ys hn hown A m c hm hsrc hbig hbase
  unfold Oper.wp execOp
  simp only [ho, resolve, invoke, builtin, Sem.run_bind, Sem.run_pure, Result.andThen_ok, List.map_toArray, List.map_cons, List.map_nil, hs, hx, hr]
  exact hK _ _ (h a' c' w' h2 h3 h4)

theorem hds_oneF (w : World) (s : Hd) : HdsIn (w.alloc (.cells #[.slice s.a s.n s.c] 65)) w.heap.size 0 [s] := fun i hi => by
  have h0 : i = 0 := by simpa using hi
  subst h0
  simp [go_sem]
theorem OwnHF.one (w : World) (s : Hd) : OwnHF (w.alloc (.cells #[.slice s.a s.n s.c] 65)) w.heap.size (.slice (some ⟨w.heap.size, 0, none⟩) 1 1) [s] :=
  ⟨rfl, .inr ⟨w.heap.size, 1, #[.slice s.a s.n s.c], rfl, Nat.le_refl _, heap_alloc_new w _, Nat.le_refl _, by unfold maxLen; omega, rfl, rfl⟩⟩
theorem own_grownHF {B : Nat} {w w' : World} {v : Value} {ss : List Hd} (hO : OwnHF w B v ss) (hg : w.grownBy w' v.ownBlock) (hB : B ≤ w.heap.size) : Below B w w' := below_of_grown hg (fun g h => (hO.lt g h).1) hB

theorem OwnHF.at_ {w : World} {base : Nat} {a : Option Addr} {l c : Nat} {ss : List Hd} (h : OwnHF w base (.slice a l c) ss) : l = ss.length ∧ NewH base w.heap.size w a ss := by
  obtain ⟨a', c', he, hle, hN⟩ := h.newH
  injection he with e1 e2 e3
  subst e1 e3
  exact ⟨e2, hN⟩
theorem OwnHF.grown {base : Nat} {w w' : World} {v : Value} {ss : List Hd} {r : Option Nat} (h : OwnHF w base v ss) (hg : w.grownBy w' r) (hr : ∀ g, v.ownBlock = some g → some g ≠ r) : OwnHF w' base v ss := by
  have hlt := h.lt
  rcases h with ⟨hl, h⟩
  refine ⟨hl, ?_⟩
  rcases h with h | ⟨g, cap, cur, rfl, hbg, hgg, rest⟩
  · exact .inl h
  · exact .inr ⟨g, cap, cur, rfl, hbg, by rw [hg.block g (hlt g rfl).2 (hr g rfl)]; exact hgg, rest⟩
end Go.Proofs.Ytknigggjnjkhbaa
