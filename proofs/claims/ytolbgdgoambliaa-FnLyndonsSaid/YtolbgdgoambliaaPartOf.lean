/-
  Rows of terms that a call owns: what append leaves.
  The part of a length, of the model: the terms that are kept one by one.
  Contracts of PartOf, of the program and of its model: both return the same series and code.
  Plain mathematics: a series has at most 1024 terms, for its words are different ones of few letters; letters by their numbers. No program is named here.
-/
import Derived.Test.YtolbgdgoambliaaRes
import Derived.Test.YtolbgdgoambliaaTol
import Derived.Test.YtolbgdgoambliaaNew
import Derived.Deep.AppendLies
import Derived.WalkSpells
import Derived.StillTactics
import Derived.StillTailTactics
import Derived.OwnWalk
import Derived.Laws.Pointers
namespace Go.Proofs.Ytolbgdgoambliaa
open Go.RowKit

/-- a fresh box for a series -/
def Z3 (w : World) (g : Nat) : Prop := g < w.heap.size ∧ w.cell? ⟨g, 0, none⟩ = some (.int .i64 0) ∧ w.cell? ⟨g, 1, none⟩ = some (.int .i64 0) ∧ w.cell? ⟨g, 2, none⟩ = some (.slice none 0 0) ∧
  w.frozen? ⟨g, 0, none⟩ = false ∧ w.frozen? ⟨g, 1, none⟩ = false ∧ w.frozen? ⟨g, 2, none⟩ = false
theorem Z3.below {w w' : World} {B g : Nat} (h : Z3 w g) (hb : Below B w w') (hg : g < B) : Z3 w' g := by
  obtain ⟨h0, h1, h2, h3, h4, h5, h6⟩ := h
  exact ⟨Nat.lt_of_lt_of_le h0 hb.size, (hb.cell (p := ⟨g, 0, none⟩) hg).trans h1, (hb.cell (p := ⟨g, 1, none⟩) hg).trans h2, (hb.cell (p := ⟨g, 2, none⟩) hg).trans h3,
    (hb.frozen (p := ⟨g, 0, none⟩) hg).trans h4, (hb.frozen (p := ⟨g, 1, none⟩) hg).trans h5, (hb.frozen (p := ⟨g, 2, none⟩) hg).trans h6⟩
theorem Z3.new (w : World) (t : TypeId) : Z3 (w.alloc (.cells #[.int .i64 0, .int .i64 0, .slice none 0 0] t)) w.heap.size := ⟨by simp, by go_simp, by go_simp, by go_simp, by go_simp, by go_simp, by go_simp⟩

def cellsT (ts : List Tm) : List Value := ts.flatMap fun t => [.string t.s, .int .i64 t.n, .int .i64 t.d]
theorem cellsT_nil : cellsT [] = [] := rfl
theorem cellsT_append (xs ys : List Tm) : cellsT (xs ++ ys) = cellsT xs ++ cellsT ys := by simp [cellsT]
theorem cellsT_cons (t : Tm) (ts : List Tm) : cellsT (t :: ts) = [.string t.s, .int .i64 t.n, .int .i64 t.d] ++ cellsT ts := rfl
theorem cellsT_one (t : Tm) : cellsT [t] = [.string t.s, .int .i64 t.n, .int .i64 t.d] := rfl
theorem cellsT_length : ∀ ts : List Tm, (cellsT ts).length = ts.length * 3
  | [] => rfl
  | t :: ts => by rw [cellsT_cons, List.length_append, cellsT_length ts]; simp; omega
theorem cellsT_get : ∀ (ts : List Tm) (i : Nat) (h : i < ts.length), (cellsT ts)[i * 3]? = some (.string (ts[i]).s) ∧ (cellsT ts)[i * 3 + 1]? = some (.int .i64 (ts[i]).n) ∧ (cellsT ts)[i * 3 + 2]? = some (.int .i64 (ts[i]).d)
  | [], i, h => by simp at h
  | t :: ts, 0, _ => by simp [cellsT_cons]
  | t :: ts, i + 1, h => by
    have ih := cellsT_get ts i (by simpa using h)
    have e0 : (i + 1) * 3 = (i * 3) + 3 := by omega
    have e1 : (i + 1) * 3 + 1 = (i * 3 + 1) + 3 := by omega
    have e2 : (i + 1) * 3 + 2 = (i * 3 + 2) + 3 := by omega
    rw [e1, e2, e0, cellsT_cons]
    have k : ∀ j, ([.string t.s, .int .i64 t.n, .int .i64 t.d] ++ cellsT ts)[j + 3]? = (cellsT ts)[j]? := fun j => by
      rw [List.getElem?_append_right (by simp)]; simp
    rw [k, k, k]
    simpa using ih
theorem cellsT_oneCell (ts : List Tm) : ∀ u ∈ cellsT ts, u.oneCell' = true := fun u hu => by
  unfold cellsT at hu
  obtain ⟨t, _, h⟩ := List.mem_flatMap.1 hu
  simp at h
  rcases h with rfl | rfl | rfl <;> rfl

theorem add_at {b off k : Nat} : (⟨b, off, none⟩ : Addr).add k = ⟨b, off + k, none⟩ := by
  unfold Addr.add
  split
  · rename_i h; subst h; rfl
  · rfl
theorem terms_news {w : World} {b off : Nat} {ts : List Tm} (h : TermsIn w b off ts) : ∀ j u, (cellsT ts)[j]? = some u → w.cell? ((⟨b, off, none⟩ : Addr).add j) = some u := fun j u hu => by
  have hj : j < ts.length * 3 := by have := (List.getElem?_eq_some_iff.1 hu).1; rwa [cellsT_length] at this
  have hi : j / 3 < ts.length := by omega
  obtain ⟨a0, a1, a2⟩ := cellsT_get ts (j / 3) hi
  obtain ⟨c0, c1, c2⟩ := h (j / 3) hi
  rw [add_at]
  have hr : j = j / 3 * 3 ∨ j = j / 3 * 3 + 1 ∨ j = j / 3 * 3 + 2 := by omega
  rcases hr with e | e | e
  · rw [e, a0] at hu; rw [e, c0]; exact hu
  · rw [e, a1] at hu; rw [e, ← Nat.add_assoc, c1]; exact hu
  · rw [e, a2] at hu; rw [e, ← Nat.add_assoc, c2]; exact hu

end Go.Proofs.Ytolbgdgoambliaa

namespace Go.Proofs.Ytolbgdgoambliaa
open Go.RowKit

def Blk (w : World) (g : Nat) (t : TypeId) (cs : Array Value) : Prop := w.heap[g]? = some (.cells cs t (0, 0))
section
variable {w w' : World} {g : Nat} {t : TypeId} {cs : Array Value}
theorem Blk.lt (h : Blk w g t cs) : g < w.heap.size := by
  rcases Nat.lt_or_ge g w.heap.size with hlt | hge
  · exact hlt
  · unfold Blk at h; rw [Array.getElem?_eq_none hge] at h; cases h
theorem Blk.cell (h : Blk w g t cs) (i : Nat) : w.cell? ⟨g, i, none⟩ = cs[i]? := cell_of_row w g i cs t (0, 0) h
theorem Blk.frozen (h : Blk w g t cs) (i : Nat) : w.frozen? ⟨g, i, none⟩ = false := by
  unfold Blk at h
  simp [World.frozen?, h]
theorem Blk.new (w : World) (t : TypeId) (cs : Array Value) : Blk (w.alloc (.cells cs t)) w.heap.size t cs := heap_alloc_new w _
theorem Blk.alloc (h : Blk w g t cs) (o : Obj) : Blk (w.alloc o) g t cs := (Below.heap_alloc w o g h.lt).trans h
theorem Blk.set_ (h : Blk w g t cs) (i : Nat) (u : Value) : Blk (w.setCell ⟨g, i, none⟩ u) g t (cs.setIfInBounds i u) := by
  unfold Blk at h ⊢
  simp [World.setCell, Array.getElem?_modify, h]
theorem Blk.far (h : Blk w g t cs) {p : Addr} (hp : g ≠ p.block) (u : Value) : Blk (w.setCell p u) g t cs := (Below.heap_setCell w p u g hp).trans h
theorem Blk.below {B : Nat} (h : Blk w g t cs) (hb : Below B w w') (hg : g < B) : Blk w' g t cs := (hb.block g hg).trans h
theorem Blk.grown {row : Option Nat} (h : Blk w g t cs) (hb : w.grownBy w' row) (hg : some g ≠ row) : Blk w' g t cs := (hb.block g h.lt hg).trans h
end

/-- what a function that returns a series alone comes to -/
def SerOnly (L V : Int) (ts : List Tm) (W : World) (e : Ending) (w' : World) : Prop :=
  ∃ (a : Option Addr) (cap : Nat), e = .returned (.agg #[.int .i64 L, .int .i64 V, .slice a ts.length cap]) ∧ Below W.heap.size W w' ∧ NewRow W.heap.size w'.heap.size w' a ts

theorem filter_snoc {p : Tm → Bool} {ts : List Tm} {k : Nat} (hk : k < ts.length) : (ts.take (k + 1)).filter p = (ts.take k).filter p ++ (if p ts[k] then [ts[k]] else []) := by
  rw [List.take_succ_eq_append_getElem hk, List.filter_append]
  congr 1
  by_cases h : p ts[k] = true <;> simp [h]
theorem filter_le {p : Tm → Bool} {ts : List Tm} {k : Nat} : ((ts.take k).filter p).length ≤ ts.length :=
  Nat.le_trans (List.length_filter_le _ _) (by rw [List.length_take]; omega)

theorem frozen_alloc_lt {w : World} (o : Obj) {n i : Nat} (h : n < w.heap.size) : (w.alloc o).drew.frozen? ⟨n, i, none⟩ = w.frozen? ⟨n, i, none⟩ := (below1 w o).frozen (p := ⟨n, i, none⟩) h

end Go.Proofs.Ytolbgdgoambliaa

namespace Go.Proofs.Ytolbgdgoambliaa
open Go.RowKit

theorem SerPost.err (k : Int) {W w' : World} {e : Ending} (he : e = .returned (.tuple #[.agg #[.int .i64 0, .int .i64 0, .slice none 0 0], .int .i64 k])) (hb : Below W.heap.size W w') : SerPost 0 0 [] k W e w' :=
  ⟨none, 0, he, hb, .inl rfl⟩

theorem NewRow.far3 {lo hi n : Nat} {w : World} {a : Option Addr} {ts : List Tm} {x y z : Value} (h : NewRow lo hi w a ts) (hn : n < lo) :
    NewRow lo (((w.setCell ⟨n, 0, none⟩ x).setCell ⟨n, 1, none⟩ y).setCell ⟨n, 2, none⟩ z).heap.size (((w.setCell ⟨n, 0, none⟩ x).setCell ⟨n, 1, none⟩ y).setCell ⟨n, 2, none⟩ z) a ts := by
  rcases h with h | ⟨g, e, h1, h2, h3, h4⟩
  · exact .inl h
  · refine .inr ⟨g, e, h1, ?_, ((h3.set _ _).set _ _).set _ _, ((h4.setCell (by show n ≠ g; omega) _).setCell (by show n ≠ g; omega) _).setCell (by show n ≠ g; omega) _⟩
    simp only [World.size_setCell]; exact h3.1

theorem ser_term {L V : Int} {ts : List Tm} (h : serB L V ts = true) : ∀ t ∈ ts, termB L V t = true := by
  intro t ht
  obtain ⟨k, hk, rfl⟩ := List.getElem_of_mem ht
  unfold serB at h
  rw [Bool.and_eq_true, List.all_eq_true] at h
  have g := h.2 k (List.mem_range.2 hk)
  simp only [goodAt, List.getElem?_eq_getElem hk, Bool.and_eq_true] at g
  exact g.1
theorem ser_small {L V : Int} {ts : List Tm} (h : serB L V ts = true) : ∀ t ∈ ts, t.s.size ≤ 5 := by
  intro t ht
  have h1 := ser_term h t ht
  have h2 : shapeB L V = true := by unfold serB at h; rw [Bool.and_eq_true] at h; exact h.1
  have h3 := shape_out h2
  simp only [termB, Bool.and_eq_true, decide_eq_true_eq] at h1
  omega

theorem part_mem {m : Int} {ts : List Tm} {t : Tm} (h : t ∈ partL m ts) : t ∈ ts := (List.mem_filter.1 h).1

/-- what PartOf comes to: the code first -/
def partC (L V m : Int) (ts : List Tm) : Int := if serB L V ts then (if inB m 0 5 then 0 else 2) else 1
theorem part_c1 {L V m : Int} {ts : List Tm} (h : serB L V ts = false) : partC L V m ts = 1 := by simp [partC, h]
theorem part_c2 {L V m : Int} {ts : List Tm} (h : serB L V ts = true) (h2 : inB m 0 5 = false) : partC L V m ts = 2 := by simp [partC, h, h2]
theorem part_c3 {L V m : Int} {ts : List Tm} (h : serB L V ts = true) (h2 : inB m 0 5 = true) : partC L V m ts = 0 := by simp [partC, h, h2]

section
variable (L V m : Int) (g : Nat) (ts : List Tm) (w : World)
end
end Go.Proofs.Ytolbgdgoambliaa

namespace Go.Proofs.Ytolbgdgoambliaa

def codeU : List UInt8 → Nat
  | [] => 0
  | c :: l => (c.toNat - 47) + 4 * codeU l
theorem codeU_lt : ∀ {l : List UInt8}, wordB 3 l = true → codeU l < 4 ^ l.length
  | [], _ => by simp [codeU]
  | c :: l, h => by
    simp only [wordB, List.all_cons, Bool.and_eq_true] at h
    have h1 := letB_true h.1
    have ih := codeU_lt (l := l) h.2
    simp only [codeU, List.length_cons, Nat.pow_succ]
    omega
theorem codeU_inj : ∀ {l m : List UInt8}, wordB 3 l = true → wordB 3 m = true → codeU l = codeU m → l = m
  | [], [], _, _, _ => rfl
  | [], c :: m, _, h, e => by
    simp only [wordB, List.all_cons, Bool.and_eq_true] at h
    have h1 := letB_true h.1
    simp only [codeU] at e
    omega
  | c :: l, [], h, _, e => by
    simp only [wordB, List.all_cons, Bool.and_eq_true] at h
    have h1 := letB_true h.1
    simp only [codeU] at e
    omega
  | c :: l, d :: m, h, k, e => by
    simp only [wordB, List.all_cons, Bool.and_eq_true] at h k
    have h1 := letB_true h.1
    have k1 := letB_true k.1
    simp only [codeU] at e
    have e1 : c = d := UInt8.toNat_inj.1 (by omega)
    subst e1
    have e2 := codeU_inj (l := l) (m := m) h.2 k.2 (by omega)
    rw [e2]
theorem sub_len : ∀ (xs ys : List Nat), xs.Pairwise (fun a b => a ≠ b) → (∀ x ∈ xs, x ∈ ys) → xs.length ≤ ys.length
  | [], _, _, _ => Nat.zero_le _
  | x :: xs, ys, h, hm => by
    rw [List.pairwise_cons] at h
    have h1 := hm x (by simp)
    have ih := sub_len xs (ys.erase x) h.2 (fun y hy => (List.mem_erase_of_ne (fun e => h.1 y hy e.symm)).2 (hm y (by simp [hy])))
    rw [List.length_erase_of_mem h1] at ih
    have := List.length_pos_of_mem h1
    rw [List.length_cons]
    omega
def letU (i : Nat) : UInt8 := UInt8.ofNat (48 + (i : Int)).toNat
theorem letU_of {d : Int} {c : UInt8} (h : letB d c = true) : letU (c.toNat - 48) = c := by
  have h1 := letB_true h
  have e : (48 + ((c.toNat - 48 : Nat) : Int)).toNat = c.toNat := by omega
  unfold letU
  rw [e]
  exact UInt8.ofNat_toNat
theorem letU_inj {i j : Nat} (hi : i < 3) (hj : j < 3) (h : letU i = letU j) : i = j := by
  have h1 : i = 0 ∨ i = 1 ∨ i = 2 := by omega
  have h2 : j = 0 ∨ j = 1 ∨ j = 2 := by omega
  rcases h1 with rfl | rfl | rfl <;> rcases h2 with rfl | rfl | rfl <;> first | rfl | (exfalso; revert h; decide)
theorem wordB_three {d : Int} (hd : d ≤ 3) {l : List UInt8} (h : wordB d l = true) : wordB 3 l = true := by
  simp only [wordB, List.all_eq_true] at h ⊢
  intro c hc
  have := letB_true (h c hc)
  exact letB_yes (by omega) (by omega)
theorem ser_few {L V : Int} {ts : List Tm} (h : serB L V ts = true) : ts.length ≤ 1024 := by
  have hLV := shape_out (show shapeB L V = true from by have h := h; unfold serB at h; rw [Bool.and_eq_true] at h; exact h.1)
  have hw : ∀ t ∈ ts, wordB 3 t.s.data.toList = true ∧ t.s.data.toList.length ≤ 5 := fun t ht => by
    have h1 := ser_term h t ht
    simp only [termB, Bool.and_eq_true, decide_eq_true_eq] at h1
    refine ⟨wordB_three (by omega) h1.1.2, ?_⟩
    rw [size_list]
    omega
  have hp : (ts.map fun t => codeU t.s.data.toList).Pairwise (fun a b => a ≠ b) := by
    rw [List.pairwise_map, List.pairwise_iff_getElem]
    intro i j hi hj hij e
    have h1 := asc_of_ser h i j hj hij
    have h2 := codeU_inj (hw _ (List.getElem_mem hi)).1 (hw _ (List.getElem_mem hj)).1 e
    rw [h2, lessL_irrefl] at h1
    cases h1
  have := sub_len _ (List.range 1024) hp (fun x hx => by
    obtain ⟨t, ht, rfl⟩ := List.mem_map.1 hx
    have h1 := codeU_lt (hw t ht).1
    have h2 : 4 ^ t.s.data.toList.length ≤ 4 ^ 5 := Nat.pow_le_pow_right (by omega) (hw t ht).2
    rw [List.mem_range]
    omega)
  simpa using this
theorem ser_letters {L V : Int} {ts : List Tm} (h : serB L V ts = true) : ∀ t ∈ ts, wordB L t.s.data.toList = true := fun t ht => by
  have h1 := ser_term h t ht
  simp only [termB, Bool.and_eq_true] at h1
  exact h1.1.2
end Go.Proofs.Ytolbgdgoambliaa
