/-
  Rows of fractions of the call's own.
-/
import Derived.Test.YtknigggjnjkhbaaPathRes
namespace Go.Proofs.Ytknigggjnjkhbaa
open Go.RowKit

def cellsRq (zs : List (Int × Int)) : List Value := zs.flatMap fun z => [.int .i64 z.1, .int .i64 z.2]
theorem cellsR_appendq (xs ys : List (Int × Int)) : cellsRq (xs ++ ys) = cellsRq xs ++ cellsRq ys := by simp [cellsRq]
theorem cellsR_consq (t : Int × Int) (ts : List (Int × Int)) : cellsRq (t :: ts) = [.int .i64 t.1, .int .i64 t.2] ++ cellsRq ts := rfl
theorem cellsR_lengthq : ∀ ts : List (Int × Int), (cellsRq ts).length = ts.length * 2
  | [] => rfl
  | t :: ts => by rw [cellsR_consq, List.length_append, cellsR_lengthq ts]; simp; omega
theorem cellsR_getq : ∀ (ts : List (Int × Int)) (i : Nat) (h : i < ts.length), (cellsRq ts)[i * 2]? = some (.int .i64 (ts[i]).1) ∧ (cellsRq ts)[i * 2 + 1]? = some (.int .i64 (ts[i]).2)
  | [], i, h => by simp at h
  | t :: ts, 0, _ => by simp [cellsR_consq]
  | t :: ts, i + 1, h => by
    have ih := cellsR_getq ts i (by simpa using h)
    have e0 : (i + 1) * 2 = (i * 2) + 2 := by omega
    have e1 : (i + 1) * 2 + 1 = (i * 2 + 1) + 2 := by omega
    rw [e1, e0, cellsR_consq]
    have k : ∀ j, ([.int .i64 t.1, .int .i64 t.2] ++ cellsRq ts)[j + 2]? = (cellsRq ts)[j]? := fun j => by
      rw [List.getElem?_append_right (by simp)]; simp
    rw [k, k]
    simpa using ih
theorem cellsR_oneCellq (ts : List (Int × Int)) : ∀ u ∈ cellsRq ts, u.oneCell' = true := fun u hu => by
  unfold cellsRq at hu
  obtain ⟨t, _, h⟩ := List.mem_flatMap.1 hu
  simp at h
  rcases h with rfl | rfl <;> rfl
/-- fractions in memory -/
def FrsInq (w : World) (b off : Nat) (zs : List (Int × Int)) : Prop := ∀ i (h : i < zs.length), w.cell? ⟨b, off + i * 2, none⟩ = some (.int .i64 (zs[i]).1) ∧ w.cell? ⟨b, off + i * 2 + 1, none⟩ = some (.int .i64 (zs[i]).2)
theorem FrsInq.below {w w' : World} {B b off : Nat} {zs : List (Int × Int)} (h : FrsInq w b off zs) (hb : Below B w w') (hlt : b < B) : FrsInq w' b off zs := fun i hi =>
  ⟨(hb.cell (p := ⟨b, off + i * 2, none⟩) hlt).trans (h i hi).1, (hb.cell (p := ⟨b, off + i * 2 + 1, none⟩) hlt).trans (h i hi).2⟩
theorem frs_newsq {w : World} {b off : Nat} {ts : List (Int × Int)} (h : FrsInq w b off ts) : ∀ j u, (cellsRq ts)[j]? = some u → w.cell? ((⟨b, off, none⟩ : Addr).add j) = some u := fun j u hu => by
  have hj : j < ts.length * 2 := by have := (List.getElem?_eq_some_iff.1 hu).1; rwa [cellsR_lengthq] at this
  have hi : j / 2 < ts.length := by omega
  obtain ⟨a0, a1⟩ := cellsR_getq ts (j / 2) hi
  obtain ⟨c0, c1⟩ := h (j / 2) hi
  rw [add_at]
  have hr : j = j / 2 * 2 ∨ j = j / 2 * 2 + 1 := by omega
  rcases hr with e | e
  · rw [e, a0] at hu; rw [e, c0]; exact hu
  · rw [e, a1] at hu; rw [e, ← Nat.add_assoc, c1]; exact hu
/-- a row of fractions of the call's own; a row of fractions -/
def NewRq (lo hi : Nat) (w : World) (a : Option Addr) (zs : List (Int × Int)) : Prop := zs = [] ∨ ∃ g, a = some ⟨g, 0, none⟩ ∧ lo ≤ g ∧ g < hi ∧ FrsInq w g 0 zs
theorem NewRq.mono {lo hi lo' hi' : Nat} {w : World} {a : Option Addr} {zs : List (Int × Int)} (h : NewRq lo hi w a zs) (h1 : lo' ≤ lo) (h2 : hi ≤ hi') : NewRq lo' hi' w a zs := by
  rcases h with h | ⟨g, e, q1, q2, q3⟩
  · exact .inl h
  · exact .inr ⟨g, e, by omega, by omega, q3⟩
theorem NewRq.below {lo hi B : Nat} {w w' : World} {a : Option Addr} {zs : List (Int × Int)} (h : NewRq lo hi w a zs) (hb : Below B w w') (hh : hi ≤ B) : NewRq lo hi w' a zs := by
  rcases h with h | ⟨g, e, q1, q2, q3⟩
  · exact .inl h
  · exact .inr ⟨g, e, q1, q2, q3.below hb (by omega)⟩
theorem info_frac2q : (Try.prog.info? 43).map (fun i => (i.zero, i.size, i.bytes)) = some (some (.agg #[.int .i64 0, .int .i64 0]), 2, 16) := by kernel_rfl
/-- the value owns the fractions, in a row from the block `base` on -/
def OwnRq (w : World) (base : Nat) (v : Value) (ts : List (Int × Int)) : Prop := w.ownsRow base 43 2 v ts.length (cellsRq ts)
theorem OwnRq.nil (w : World) (base : Nat) : OwnRq w base (.slice none 0 0) [] := World.ownsRow_nil w base _ 2
theorem OwnRq.emptyRow {w : World} {base g : Nat} (h : w.heap[g]? = some (.cells #[] 43 (0, 0))) (hb : base ≤ g) : OwnRq w base (.slice (some ⟨g, 0, none⟩) 0 0) [] :=
  ⟨rfl, .inr ⟨g, 0, #[], rfl, hb, h, Nat.le_refl _, by unfold maxLen; omega, rfl, rfl⟩⟩
theorem OwnRq.mono {w : World} {base base' : Nat} {v : Value} {ss : List (Int × Int)} (h : OwnRq w base v ss) (hb : base' ≤ base) : OwnRq w base' v ss := by
  rcases h with ⟨hl, h⟩
  refine ⟨hl, ?_⟩
  rcases h with h | ⟨g, cap, cur, e, hbg, rest⟩
  · exact .inl h
  · exact .inr ⟨g, cap, cur, e, Nat.le_trans hb hbg, rest⟩
theorem OwnRq.newRow {w : World} {base : Nat} {v : Value} {ts : List (Int × Int)} (h : OwnRq w base v ts) : ∃ a cap, v = .slice a ts.length cap ∧ ts.length ≤ cap ∧ NewRq base w.heap.size w a ts := by
  rcases h.2 with ⟨rfl, h0⟩ | ⟨g, cap, cur, rfl, hbg, hg, hnc, hcm, hcs, htake⟩
  · have e : ts = [] := List.eq_nil_of_length_eq_zero h0
    subst e
    exact ⟨none, 0, rfl, Nat.le_refl _, .inl rfl⟩
  · have hlt : g < w.heap.size := by
      rcases Nat.lt_or_ge g w.heap.size with hlt | hge
      · exact hlt
      · rw [Array.getElem?_eq_none hge] at hg; cases hg
    have hcell : ∀ j, w.cell? ⟨g, j, none⟩ = cur[j]? := fun j => cell_of_row w g j cur _ (0, 0) hg
    have hsz : ts.length * 2 ≤ cur.size := by rw [hcs]; exact Nat.mul_le_mul_right 2 hnc
    have hat : ∀ j, j < ts.length * 2 → cur[j]? = (cellsRq ts)[j]? := fun j hj => by
      rw [← htake, List.getElem?_take, if_pos hj]; simp
    refine ⟨some ⟨g, 0, none⟩, cap, rfl, hnc, .inr ⟨g, rfl, hbg, hlt, fun i hi => ?_⟩⟩
    obtain ⟨a0, a1⟩ := cellsR_getq ts i hi
    simp only [Nat.zero_add]
    exact ⟨by rw [hcell, hat _ (by omega), a0], by rw [hcell, hat _ (by omega), a1]⟩
theorem OwnRq.below {B base : Nat} {w w' : World} {v : Value} {ts : List (Int × Int)} (h : OwnRq w base v ts) (hb : Below B w w') (hv : ∀ g, v.ownBlock = some g → g < B) : OwnRq w' base v ts := by
  rcases h with ⟨hl, h⟩
  refine ⟨hl, ?_⟩
  rcases h with h | ⟨g, cap, cur, rfl, hbg, hg, rest⟩
  · exact .inl h
  · exact .inr ⟨g, cap, cur, rfl, hbg, by rw [hb.block g (hv g rfl)]; exact hg, rest⟩
theorem OwnRq.lt {base : Nat} {w : World} {v : Value} {ts : List (Int × Int)} (h : OwnRq w base v ts) : ∀ g, v.ownBlock = some g → base ≤ g ∧ g < w.heap.size := fun g hv => by
  rcases h.2 with ⟨rfl, h0⟩ | ⟨g', cap, cur, rfl, hbg, hg, hnc, hcm, hcs, htake⟩
  · simp [Value.ownBlock] at hv
  · have e : g' = g := by simpa [Value.ownBlock] using hv
    subst e
    refine ⟨hbg, ?_⟩
    rcases Nat.lt_or_ge g' w.heap.size with hlt | hge
    · exact hlt
    · rw [Array.getElem?_eq_none hge] at hg; cases hg
theorem OwnRq.far {base : Nat} {w : World} {v : Value} {ts : List (Int × Int)} (h : OwnRq w base v ts) {p : Addr} (hp : v.ownBlock ≠ some p.block) (u : Value) : OwnRq (w.setCell p u) base v ts := by
  rcases h with ⟨hl, h⟩
  refine ⟨hl, ?_⟩
  rcases h with h | ⟨g, cap, cur, rfl, hbg, hg, rest⟩
  · exact .inl h
  · refine .inr ⟨g, cap, cur, rfl, hbg, ?_, rest⟩
    rw [Below.heap_setCell w p u g (fun e => hp (by rw [← e]; rfl))]; exact hg
theorem OwnRq.alloc {base : Nat} {w : World} {v : Value} {ts : List (Int × Int)} (h : OwnRq w base v ts) (o : Obj) : OwnRq (w.alloc o) base v ts :=
  h.below (below1 w o) (fun g hg => (h.lt g hg).2)
set_option maxRecDepth 100000 in
theorem run_append_frsq (w : World) (ty : TypeId) (base : Nat) (v : Value) (n : Nat) (xs ys : List (Int × Int)) (hn : n = xs.length) (hown : OwnRq w base v xs) (A : Option Addr) (m c : Nat) (hm : m = ys.length)
    (hsrc : m = 0 ∨ ∃ b off, A = some ⟨b, off, none⟩ ∧ FrsInq w b off ys) (hbig : n + m ≤ 4194304) (hbase : base ≤ w.heap.size) :
    ∃ a' c' w', (Builtin.append_ #[65, 65] ty #[v, .slice A m c]).run Try.prog w = .ok (.slice a' (n + m) c') w' ∧ OwnRq w' base (.slice a' (n + m) c') (xs ++ ys) ∧ w.grownBy w' v.ownBlock ∧
      ((Value.slice a' (n + m) c').ownBlock = v.ownBlock ∨ (Value.slice a' (n + m) c').ownBlock = some w.heap.size) := by
  obtain ⟨i0, hi0, hi1, hi2, hi3⟩ := info_parts info_frac2q
  subst hn hm
  have hform : ∀ (W : World) (u : Value) (zs : List (Int × Int)), OwnRq W base u zs → ∃ a' c', u = .slice a' zs.length c' := fun W u zs h => by
    obtain ⟨a', c', h1, _, _⟩ := h.newRow
    exact ⟨a', c', h1⟩
  rcases A with _ | ad
  · have h0 : ys = [] := by
      rcases hsrc with h | ⟨b, off, h, _⟩
      · exact List.eq_nil_of_length_eq_zero h
      · cases h
    subst h0
    obtain ⟨a', c', rfl⟩ := hform _ _ _ hown
    refine ⟨a', c', w, ?_, by simpa using hown, World.grownBy.refl w _, .inl rfl⟩
    rcases hown.2 with ⟨h1, h2⟩ | ⟨g, cap, cur, h1, _, _, hnc, _⟩
    · injection h1 with e1 e2 e3
      subst e1 e3
      simp [Builtin.append_, run_underlying Try.underlying65, sizeOf, typeInfo, hi0, Builtin.lenOf, Builtin.firstCells, h2]
    · injection h1 with e1 e2 e3
      subst e1 e3
      simp [Builtin.append_, run_underlying Try.underlying65, sizeOf, typeInfo, hi0, Builtin.lenOf, Builtin.firstCells, hnc, storeCells]
  · have hnews : ∀ j u, (cellsRq ys)[j]? = some u → w.cell? (ad.add j) = some u := fun j u hu => by
      rcases hsrc with h | ⟨b, off, h, ht⟩
      · have e : ys = [] := List.eq_nil_of_length_eq_zero h
        subst e
        simp [cellsRq] at hu
      · cases h
        exact frs_newsq ht j u hu
    obtain ⟨v', w', hr, h2, h3, _, h5⟩ := run_append_own_at (P := Try.prog) w base 65 ty 43 i0 _ 2 16 Try.underlying65 hi0 hi1 hi2 hi3 rfl (by omega) v xs.length (cellsRq xs) hown ad ys.length c (cellsRq ys) (cellsR_lengthq ys) hnews (cellsR_oneCellq ys) (by unfold maxLen; omega) (by omega) hbase
    have hO : OwnRq w' base v' (xs ++ ys) := by
      unfold OwnRq
      rw [List.length_append, cellsR_appendq]
      exact h2
    obtain ⟨a', c', rfl⟩ := hform _ _ _ hO
    rw [List.length_append] at hr hO h5
    exact ⟨a', c', w', hr, hO, h3, h5⟩

theorem wpList_append_frsq {ops : Array Oper} {rest : List Oper} {o : Oper} {a : Act} {w : World} {Q : Exit → Act → World → Prop} (hgd : o.guard = none) (s x : Operand)
    (ho : o.op = .call { callee := .builtin .append, args := #[s, x], argTypes := #[65, 65] })
    (base : Nat) (v : Value) (n : Nat) (xs ys : List (Int × Int)) (hs : a.eval s = v) (hn : n = xs.length) (hown : OwnRq w base v xs) (A : Option Addr) (m c : Nat) (hx : a.eval x = .slice A m c) (hm : m = ys.length)
    (hsrc : m = 0 ∨ ∃ b off, A = some ⟨b, off, none⟩ ∧ FrsInq w b off ys) (hbig : n + m ≤ 4194304) (hbase : base ≤ w.heap.size)
    (h : ∀ a' c' w', OwnRq w' base (.slice a' (n + m) c') (xs ++ ys) → w.grownBy w' v.ownBlock → ((Value.slice a' (n + m) c').ownBlock = v.ownBlock ∨ (Value.slice a' (n + m) c').ownBlock = some w.heap.size) → wpList Try.prog ops Q rest (a.put o.dst (.slice a' (n + m) c')) w') :
    wpList Try.prog ops Q (o :: rest) a w := by
  refine wpList_plain hgd fun K hK => ?_
  obtain ⟨a', c', w', hr, h2, h3, h4⟩ := run_append_frsq w o.type base v n xs ys hn hown A m c hm hsrc hbig hbase
  unfold Oper.wp execOp
  simp only [ho, resolve, invoke, builtin, Sem.run_bind, Sem.run_pure, Result.andThen_ok, List.map_toArray, List.map_cons, List.map_nil, hs, hx, hr]
  exact hK _ _ (h a' c' w' h2 h3 h4)


theorem frs_oneq (w : World) (n d : Int) : FrsInq (w.alloc (.cells #[.int .i64 n, .int .i64 d] 43)) w.heap.size 0 [(n, d)] := fun i hi => by
  have h0 : i = 0 := by simpa using hi
  subst h0
  simp [go_sem]
theorem OwnRq.one (w : World) (n d : Int) : OwnRq (w.alloc (.cells #[.int .i64 n, .int .i64 d] 43)) w.heap.size (.slice (some ⟨w.heap.size, 0, none⟩) 1 1) [(n, d)] :=
  ⟨rfl, .inr ⟨w.heap.size, 1, #[.int .i64 n, .int .i64 d], rfl, Nat.le_refl _, heap_alloc_new w _, Nat.le_refl _, by unfold maxLen; omega, rfl, rfl⟩⟩
theorem own_grownRq {B : Nat} {w w' : World} {v : Value} {ss : List (Int × Int)} (hO : OwnRq w B v ss) (hg : w.grownBy w' v.ownBlock) (hB : B ≤ w.heap.size) : Below B w w' := below_of_grown hg (fun g h => (hO.lt g h).1) hB
/-- an owned row may be written -/
theorem OwnRq.made {w : World} {base : Nat} {v : Value} {ts : List (Int × Int)} (h : OwnRq w base v ts) (h0 : ts ≠ []) : ∃ g cap, v = .slice (some ⟨g, 0, none⟩) ts.length cap ∧ base ≤ g ∧ g < w.heap.size ∧ Made w g (ts.length * 2) ∧ FrsInq w g 0 ts := by
  rcases h.2 with ⟨rfl, h1⟩ | ⟨g, cap, cur, rfl, hbg, hg, hnc, hcm, hcs, htake⟩
  · exact absurd (List.eq_nil_of_length_eq_zero h1) h0
  · have hlt : g < w.heap.size := by
      rcases Nat.lt_or_ge g w.heap.size with hlt | hge
      · exact hlt
      · rw [Array.getElem?_eq_none hge] at hg; cases hg
    have hcell : ∀ j, w.cell? ⟨g, j, none⟩ = cur[j]? := fun j => cell_of_row w g j cur _ (0, 0) hg
    have hsz : ts.length * 2 ≤ cur.size := by rw [hcs]; exact Nat.mul_le_mul_right 2 hnc
    have hat : ∀ j, j < ts.length * 2 → cur[j]? = (cellsRq ts)[j]? := fun j hj => by
      rw [← htake, List.getElem?_take, if_pos hj]; simp
    refine ⟨g, cap, rfl, hbg, hlt, ⟨hlt, fun j hj => ⟨⟨_, (hcell j).trans (Array.getElem?_eq_getElem (by omega))⟩, by simp [World.frozen?, hg]⟩⟩, fun i hi => ?_⟩
    obtain ⟨a0, a1⟩ := cellsR_getq ts i hi
    simp only [Nat.zero_add]
    exact ⟨by rw [hcell, hat _ (by omega), a0], by rw [hcell, hat _ (by omega), a1]⟩
end Go.Proofs.Ytknigggjnjkhbaa
