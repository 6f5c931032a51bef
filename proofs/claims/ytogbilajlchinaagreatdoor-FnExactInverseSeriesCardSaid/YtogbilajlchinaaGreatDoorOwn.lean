/-
  Rows of terms that a call owns: what append leaves.
-/
import Derived.Test.YtogbilajlchinaaGreatDoorRes
import Derived.Deep.AppendLies
namespace Go.Proofs.YtogbilajlchinaaGreatDoor
open Go.RowKit

/-- a fresh box for a series -/
def Z3 (w : World) (g : Nat) : Prop := g < w.heap.size ∧ w.cell? ⟨g, 0, none⟩ = some (.int .i64 0) ∧ w.cell? ⟨g, 1, none⟩ = some (.int .i64 0) ∧ w.cell? ⟨g, 2, none⟩ = some (.slice none 0 0) ∧
  w.frozen? ⟨g, 0, none⟩ = false ∧ w.frozen? ⟨g, 1, none⟩ = false ∧ w.frozen? ⟨g, 2, none⟩ = false
theorem Z3.below {w w' : World} {B g : Nat} (h : Z3 w g) (hb : Below B w w') (hg : g < B) : Z3 w' g := by
  obtain ⟨h0, h1, h2, h3, h4, h5, h6⟩ := h
  exact ⟨Nat.lt_of_lt_of_le h0 hb.size, (hb.cell (p := ⟨g, 0, none⟩) hg).trans h1, (hb.cell (p := ⟨g, 1, none⟩) hg).trans h2, (hb.cell (p := ⟨g, 2, none⟩) hg).trans h3,
    (hb.frozen (p := ⟨g, 0, none⟩) hg).trans h4, (hb.frozen (p := ⟨g, 1, none⟩) hg).trans h5, (hb.frozen (p := ⟨g, 2, none⟩) hg).trans h6⟩
theorem Z3.new (w : World) (t : TypeId) : Z3 (w.alloc (.cells #[.int .i64 0, .int .i64 0, .slice none 0 0] t)) w.heap.size := ⟨by simp, by go_simp, by go_simp, by go_simp, by go_simp, by go_simp, by go_simp⟩

def cellsT (ts : List Tm) : List Value := ts.flatMap fun t => [.string t.s, .int .i64 t.n, .int .i64 t.d]
theorem cellsT_nil : cellsT [] = [] := rfl
theorem cellsT_append (xs ys : List Tm) : cellsT (xs ++ ys) = cellsT xs ++ cellsT ys := by simp [cellsT]
theorem cellsT_cons (t : Tm) (ts : List Tm) : cellsT (t :: ts) = [.string t.s, .int .i64 t.n, .int .i64 t.d] ++ cellsT ts := rfl
theorem cellsT_one (t : Tm) : cellsT [t] = [.string t.s, .int .i64 t.n, .int .i64 t.d] := rfl
theorem cellsT_length : ∀ ts : List Tm, (cellsT ts).length = ts.length * 3
  | [] => rfl
  | t :: ts => by rw [cellsT_cons, List.length_append, cellsT_length ts]; simp; omega
theorem cellsT_get : ∀ (ts : List Tm) (i : Nat) (h : i < ts.length), (cellsT ts)[i * 3]? = some (.string (ts[i]).s) ∧ (cellsT ts)[i * 3 + 1]? = some (.int .i64 (ts[i]).n) ∧ (cellsT ts)[i * 3 + 2]? = some (.int .i64 (ts[i]).d)
  | [], i, h => by simp at h
  | t :: ts, 0, _ => by simp [cellsT_cons]
  | t :: ts, i + 1, h => by
    have ih := cellsT_get ts i (by simpa using h)
    have e0 : (i + 1) * 3 = (i * 3) + 3 := by omega
    have e1 : (i + 1) * 3 + 1 = (i * 3 + 1) + 3 := by omega
    have e2 : (i + 1) * 3 + 2 = (i * 3 + 2) + 3 := by omega
    rw [e1, e2, e0, cellsT_cons]
    have k : ∀ j, ([.string t.s, .int .i64 t.n, .int .i64 t.d] ++ cellsT ts)[j + 3]? = (cellsT ts)[j]? := fun j => by
      rw [List.getElem?_append_right (by simp)]; simp
    rw [k, k, k]
    simpa using ih
theorem cellsT_oneCell (ts : List Tm) : ∀ u ∈ cellsT ts, u.oneCell' = true := fun u hu => by
  unfold cellsT at hu
  obtain ⟨t, _, h⟩ := List.mem_flatMap.1 hu
  simp at h
  rcases h with rfl | rfl | rfl <;> rfl

theorem add_at {b off k : Nat} : (⟨b, off, none⟩ : Addr).add k = ⟨b, off + k, none⟩ := by
  unfold Addr.add
  split
  · rename_i h; subst h; rfl
  · rfl
theorem terms_news {w : World} {b off : Nat} {ts : List Tm} (h : TermsIn w b off ts) : ∀ j u, (cellsT ts)[j]? = some u → w.cell? ((⟨b, off, none⟩ : Addr).add j) = some u := fun j u hu => by
  have hj : j < ts.length * 3 := by have := (List.getElem?_eq_some_iff.1 hu).1; rwa [cellsT_length] at this
  have hi : j / 3 < ts.length := by omega
  obtain ⟨a0, a1, a2⟩ := cellsT_get ts (j / 3) hi
  obtain ⟨c0, c1, c2⟩ := h (j / 3) hi
  rw [add_at]
  have hr : j = j / 3 * 3 ∨ j = j / 3 * 3 + 1 ∨ j = j / 3 * 3 + 2 := by omega
  rcases hr with e | e | e
  · rw [e, a0] at hu; rw [e, c0]; exact hu
  · rw [e, a1] at hu; rw [e, ← Nat.add_assoc, c1]; exact hu
  · rw [e, a2] at hu; rw [e, ← Nat.add_assoc, c2]; exact hu

/-- the value owns the terms, in a row from the block `base` on -/
def OwnT (w : World) (base : Nat) (v : Value) (ts : List Tm) : Prop := w.ownsRow base 95 3 v ts.length (cellsT ts)
theorem OwnT.nil (w : World) (base : Nat) : OwnT w base (.slice none 0 0) [] := World.ownsRow_nil w base _ 3
theorem OwnT.newRow {w : World} {base : Nat} {v : Value} {ts : List Tm} (h : OwnT w base v ts) : ∃ a cap, v = .slice a ts.length cap ∧ ts.length ≤ cap ∧ NewRow base w.heap.size w a ts := by
  rcases h.2 with ⟨rfl, h0⟩ | ⟨g, cap, cur, rfl, hbg, hg, hnc, hcm, hcs, htake⟩
  · have e : ts = [] := List.eq_nil_of_length_eq_zero h0
    subst e
    exact ⟨none, 0, rfl, Nat.le_refl _, .inl rfl⟩
  · have hlt : g < w.heap.size := by
      rcases Nat.lt_or_ge g w.heap.size with hlt | hge
      · exact hlt
      · rw [Array.getElem?_eq_none hge] at hg; cases hg
    have hcell : ∀ j, w.cell? ⟨g, j, none⟩ = cur[j]? := fun j => cell_of_row w g j cur _ (0, 0) hg
    have hsz : ts.length * 3 ≤ cur.size := by rw [hcs]; exact Nat.mul_le_mul_right 3 hnc
    have hat : ∀ j, j < ts.length * 3 → cur[j]? = (cellsT ts)[j]? := fun j hj => by
      rw [← htake, List.getElem?_take, if_pos hj]; simp
    refine ⟨some ⟨g, 0, none⟩, cap, rfl, hnc, .inr ⟨g, rfl, hbg, hlt, ⟨hlt, fun j hj => ⟨?_, ?_⟩⟩, fun i hi => ?_⟩⟩
    · exact ⟨cur[j]'(by omega), by rw [hcell]; exact Array.getElem?_eq_getElem (by omega)⟩
    · simp [World.frozen?, hg]
    · obtain ⟨a0, a1, a2⟩ := cellsT_get ts i hi
      simp only [Nat.zero_add]
      exact ⟨by rw [hcell, hat _ (by omega), a0], by rw [hcell, hat _ (by omega), a1], by rw [hcell, hat _ (by omega), a2]⟩
theorem OwnT.below {B base : Nat} {w w' : World} {v : Value} {ts : List Tm} (h : OwnT w base v ts) (hb : Below B w w') (hv : ∀ g, v.ownBlock = some g → g < B) : OwnT w' base v ts := by
  rcases h with ⟨hl, h⟩
  refine ⟨hl, ?_⟩
  rcases h with h | ⟨g, cap, cur, rfl, hbg, hg, rest⟩
  · exact .inl h
  · exact .inr ⟨g, cap, cur, rfl, hbg, by rw [hb.block g (hv g rfl)]; exact hg, rest⟩
theorem OwnT.lt {base : Nat} {w : World} {v : Value} {ts : List Tm} (h : OwnT w base v ts) : ∀ g, v.ownBlock = some g → base ≤ g ∧ g < w.heap.size := fun g hv => by
  rcases h.2 with ⟨rfl, h0⟩ | ⟨g', cap, cur, rfl, hbg, hg, hnc, hcm, hcs, htake⟩
  · simp [Value.ownBlock] at hv
  · have e : g' = g := by simpa [Value.ownBlock] using hv
    subst e
    refine ⟨hbg, ?_⟩
    rcases Nat.lt_or_ge g' w.heap.size with hlt | hge
    · exact hlt
    · rw [Array.getElem?_eq_none hge] at hg; cases hg
theorem OwnT.far {base : Nat} {w : World} {v : Value} {ts : List Tm} (h : OwnT w base v ts) {p : Addr} (hp : v.ownBlock ≠ some p.block) (u : Value) : OwnT (w.setCell p u) base v ts := by
  rcases h with ⟨hl, h⟩
  refine ⟨hl, ?_⟩
  rcases h with h | ⟨g, cap, cur, rfl, hbg, hg, rest⟩
  · exact .inl h
  · refine .inr ⟨g, cap, cur, rfl, hbg, ?_, rest⟩
    rw [Below.heap_setCell w p u g (fun e => hp (by rw [← e]; rfl))]; exact hg
theorem OwnT.alloc {base : Nat} {w : World} {v : Value} {ts : List Tm} (h : OwnT w base v ts) (o : Obj) : OwnT (w.alloc o) base v ts :=
  h.below (below1 w o) (fun g hg => (h.lt g hg).2)
end Go.Proofs.YtogbilajlchinaaGreatDoor
