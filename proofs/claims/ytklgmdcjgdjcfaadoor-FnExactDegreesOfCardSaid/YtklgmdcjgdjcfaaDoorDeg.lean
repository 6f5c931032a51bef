/-
  Contracts of DegreesOf, of the program and of its model: both return the same lists and code.
-/
import Derived.Test.YtklgmdcjgdjcfaaDoorFew
import Derived.Test.YtklgmdcjgdjcfaaDoorPathRes
import Derived.Test.YtklgmdcjgdjcfaaDoorEndOf
import Derived.Test.YtklgmdcjgdjcfaaDoorWordsOf
import Derived.Test.YtklgmdcjgdjcfaaDoorShelf
import Derived.Deep.AppendLies
import Derived.Deep.RegionLaw
namespace Go.Proofs.YtklgmdcjgdjcfaaDoor
open Go.RowKit

/-- how many times each letter is in a word -/
def degO (l : List UInt8) (i : Nat) : Int := (l.count (letU i) : Nat)
def degI (D : Nat) (l : List UInt8) : List Int := (List.range D).map (degO l)
def degL (D : Nat) (ts : List Tm) : List (List Int) := ts.map fun t => degI D t.s.data.toList
theorem degI_length (D : Nat) (l : List UInt8) : (degI D l).length = D := by simp [degI]
theorem degL_length (D : Nat) (ts : List Tm) : (degL D ts).length = ts.length := by simp [degL]
theorem degI_get {D : Nat} {l : List UInt8} {i : Nat} (h : i < (degI D l).length) : (degI D l)[i] = degO l i := by simp [degI]
theorem degI_take {D : Nat} {l : List UInt8} {i : Nat} (hi : i < D) : (degI D l).take (i + 1) = (degI D l).take i ++ [degO l i] := by
  rw [List.take_succ_eq_append_getElem (by rw [degI_length]; exact hi), degI_get]
theorem degL_take {D : Nat} {ts : List Tm} {k : Nat} (hk : k < ts.length) : (degL D ts).take (k + 1) = (degL D ts).take k ++ [degI D (ts[k]).s.data.toList] := by
  rw [List.take_succ_eq_append_getElem (by rw [degL_length]; exact hk)]
  simp [degL]
theorem flat_degL (D : Nat) : ∀ ts : List Tm, flat (degL D ts) = ts.length * D
  | [] => by simp [degL, flat]
  | t :: r => by
    have ih := flat_degL D r
    simp only [degL, List.map_cons, flat, degI_length, List.length_cons] at ih ⊢
    rw [ih, Nat.add_mul]; omega
theorem degI_nil (D : Nat) : degI D [] = List.replicate D 0 := by
  apply List.ext_getElem
  · simp [degI]
  · intro i h1 h2
    rw [degI_get, List.getElem_replicate]
    rfl
theorem degO_le (l : List UInt8) (i : Nat) : 0 ≤ degO l i ∧ degO l i ≤ l.length := by
  have := List.count_le_length (a := letU i) (l := l)
  unfold degO
  omega
/-- one more letter: its number goes up by one -/
theorem degI_set {D : Nat} (hD : D ≤ 3) {l : List UInt8} {c : UInt8} {j : Nat} (hj : j < D) (hc : letU j = c) : (degI D l).set j (degO l j + 1) = degI D (l ++ [c]) := by
  subst hc
  apply List.ext_getElem
  · simp [degI]
  · intro i h1 h2
    rw [List.getElem_set, degI_get, degI_get]
    have hi : i < D := by simpa [degI] using h2
    unfold degO
    rw [List.count_append]
    split
    · rename_i e
      subst e
      simp
    · rename_i e
      have hne : letU j ≠ letU i := fun h => e (letU_inj (by omega) (by omega) h)
      have h0 : List.count (letU i) [letU j] = 0 := by
        rw [List.count_eq_zero]
        simp only [List.mem_singleton]
        exact fun h => hne h.symm
      rw [h0, Nat.add_zero]

theorem step_letter {ops : Array Oper} {o : Oper} {a : Act} {w : World} {K : Act → World → Prop} {Q : Exit → Act → World → Prop} {E : Prop} (hg : o.guard = none) (x : Operand)
    (ho : o.op = .call { callee := .value (.func 18), args := #[x], argTypes := #[2] }) (i : Nat) (hi : i < 3) (hx : a.eval x = .int .i64 i)
    (h : K (a.put o.dst (.string ⟨#[letU i]⟩)) w) : if Region.wanted o (yielded ops a.tmps) = true then Oper.wp Tryd.prog o a w K Q else E := by
  have hw : Region.wanted o (yielded ops a.tmps) = true := by simp [Region.wanted, hg]
  rw [if_pos hw]
  unfold Oper.wp
  have hrun : (execOp a.eval o).run Tryd.prog w = .ok (.enter 18 #[.int .i64 i]) w := by
    simpa [execOp, ho, resolve, invoke, Deferred.ofValue, go_sem] using hx
  rw [hrun, Oper.upon_enter]
  refine (letterWord_c i (by omega) (by omega) w).mono ?_
  rintro e w' ⟨rfl, rfl⟩
  exact h
theorem step_count {ops : Array Oper} {o : Oper} {a : Act} {w : World} {K : Act → World → Prop} {Q : Exit → Act → World → Prop} {E : Prop} (hg : o.guard = none) (x y : Operand)
    (ho : o.op = .call { callee := .value (.func 17), args := #[x, y], argTypes := #[9, 9] }) (s : ByteArray) (i : Nat) (hx : a.eval x = .string s) (hy : a.eval y = .string ⟨#[letU i]⟩)
    (h : K (a.put o.dst (.int .i64 (degO s.data.toList i))) w) : if Region.wanted o (yielded ops a.tmps) = true then Oper.wp Tryd.prog o a w K Q else E := by
  have hw : Region.wanted o (yielded ops a.tmps) = true := by simp [Region.wanted, hg]
  rw [if_pos hw]
  unfold Oper.wp
  have hrun : (execOp a.eval o).run Tryd.prog w = .ok (.enter 17 #[.string s, .string ⟨#[letU i]⟩]) w := by
    have h2 := And.intro hx hy
    simpa [execOp, ho, resolve, invoke, Deferred.ofValue, go_sem] using h2
  rw [hrun, Oper.upon_enter]
  refine (Tryd.strings_Count_one s (letU i) w).mono ?_
  rintro e w' ⟨rfl, rfl⟩
  exact h
/-- the append of one number, as one step of a region that draws -/
theorem step_int {ops : Array Oper} {o : Oper} {a : Act} {W : World} {K : Act → World → Prop} {Q : Exit → Act → World → Prop} {E : Prop} (hgd : o.guard = none) (s x : Operand)
    (ho : o.op = .call { callee := .builtin .append, args := #[s, x], argTypes := #[40, 40] }) (base : Nat) (v : Value) (n : Nat) (zs : List Int) (z : Int) (hs : a.eval s = v)
    (hown : OwnI W base v zs) (hn : n = zs.length) (hx : a.eval x = .slice (some ⟨W.heap.size, 0, none⟩) 1 1) (h9 : n ≤ 100) (hbase : base ≤ W.heap.size)
    (h : ∀ gg cg w', OwnI w' base (.slice (some ⟨gg, 0, none⟩) (n + 1) cg) (zs ++ [z]) → (W.alloc (.cells #[.int .i64 z] 2)).grownBy w' v.ownBlock → K (a.put o.dst (.slice (some ⟨gg, 0, none⟩) (n + 1) cg)) w') :
    if Region.wanted o (yielded ops a.tmps) = true then Oper.wp Tryd.prog o a (W.alloc (.cells #[.int .i64 z] 2)) K Q else E := by
  obtain ⟨i0, hi0, hi1, hi2, hi3⟩ := info_parts info_int64
  refine step_append_lies _ hgd s x 40 ho base 2 i0 _ 1 8 Tryd.underlying40 hi0 hi1 hi2 hi3 rfl (by omega) v n (cellsI zs) hs
    (by have h := hown.alloc (.cells #[.int .i64 z] 2); unfold OwnI at h; rw [← hn] at h; exact h)
    ⟨W.heap.size, 0, none⟩ 1 1 [.int .i64 z] hx rfl
    (World.news_of_block (cs := #[.int .i64 z]) (t := 2) (fr := (0, 0)) (heap_alloc_new W _))
    (by simp [Value.oneCell']) (by omega) (by unfold maxLen; omega) (by omega) (by simp; omega) (W.heap.size + 1) (by simp) ?_
  intro gg cg w' h1 h2 _ _
  refine h gg cg w' ?_ h2
  unfold OwnI
  rw [List.length_append, ← hn, cellsI_append]
  exact h1
end Go.Proofs.YtklgmdcjgdjcfaaDoor
