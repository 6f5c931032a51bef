/-
  append onto a row of words of the call's own.
-/
import Derived.Test.YtahkahmhagoacaaDoorStr
import Derived.Test.YtahkahmhagoacaaDoorOwn
import Derived.Deep.RegionLaw
import Derived.WalkSpells
import Derived.StillTailTactics
import Derived.OwnWalk
import Derived.Laws.Pointers
import Derived.IntWalk
import Derived.Laws.BytesArg
namespace Go.Proofs.YtahkahmhagoacaaDoor
open Go.RowKit

theorem strs_news {w : World} {b off : Nat} {ss : List ByteArray} (h : StrsIn w b off ss) : ∀ j u, (cellsS ss)[j]? = some u → w.cell? ((⟨b, off, none⟩ : Addr).add j) = some u := fun j u hu => by
  have hj : j < ss.length := by have := (List.getElem?_eq_some_iff.1 hu).1; simpa [cellsS] using this
  rw [add_at, h j hj]
  simp only [cellsS, List.getElem?_map, List.getElem?_eq_getElem hj, Option.map_some, Option.some.injEq] at hu
  rw [hu]

set_option maxRecDepth 100000 in
theorem run_append_strs (w : World) (ty : TypeId) (base : Nat) (v : Value) (n : Nat) (xs ys : List ByteArray) (hn : n = xs.length) (hown : OwnS w base v xs) (A : Option Addr) (m c : Nat) (hm : m = ys.length)
    (hsrc : m = 0 ∨ ∃ b off, A = some ⟨b, off, none⟩ ∧ StrsIn w b off ys) (hbig : n + m ≤ 4194304) (hbase : base ≤ w.heap.size) :
    ∃ a' c' w', (Builtin.append_ #[45, 45] ty #[v, .slice A m c]).run Tryd.prog w = .ok (.slice a' (n + m) c') w' ∧ OwnS w' base (.slice a' (n + m) c') (xs ++ ys) ∧ w.grownBy w' v.ownBlock ∧
      ((Value.slice a' (n + m) c').ownBlock = v.ownBlock ∨ (Value.slice a' (n + m) c').ownBlock = some w.heap.size) := by
  obtain ⟨i0, hi0, hi1, hi2, hi3⟩ := info_parts info_string
  subst hn hm
  have hform : ∀ (W : World) (u : Value) (zs : List ByteArray), OwnS W base u zs → ∃ a' c', u = .slice a' zs.length c' := fun W u zs h => by
    obtain ⟨a', c', h1, _, _⟩ := h.newS
    exact ⟨a', c', h1⟩
  rcases A with _ | ad
  · have h0 : ys = [] := by
      rcases hsrc with h | ⟨b, off, h, _⟩
      · exact List.eq_nil_of_length_eq_zero h
      · cases h
    subst h0
    obtain ⟨a', c', rfl⟩ := hform _ _ _ hown
    refine ⟨a', c', w, ?_, by simpa using hown, World.grownBy.refl w _, .inl rfl⟩
    rcases hown.2 with ⟨h1, h2⟩ | ⟨g, cap, cur, h1, _, _, hnc, _⟩
    · injection h1 with e1 e2 e3
      subst e1 e3
      simp [Builtin.append_, run_underlying Tryd.underlying45, sizeOf, typeInfo, hi0, Builtin.lenOf, Builtin.firstCells, h2]
    · injection h1 with e1 e2 e3
      subst e1 e3
      simp [Builtin.append_, run_underlying Tryd.underlying45, sizeOf, typeInfo, hi0, Builtin.lenOf, Builtin.firstCells, hnc, storeCells]
  · have hnews : ∀ j u, (cellsS ys)[j]? = some u → w.cell? (ad.add j) = some u := fun j u hu => by
      rcases hsrc with h | ⟨b, off, h, ht⟩
      · have e : ys = [] := List.eq_nil_of_length_eq_zero h
        subst e
        simp [cellsS] at hu
      · cases h
        exact strs_news ht j u hu
    obtain ⟨v', w', hr, h2, h3, _, h5⟩ := run_append_own_at (P := Tryd.prog) w base 45 ty 9 i0 _ 1 16 Tryd.underlying45 hi0 hi1 hi2 hi3 rfl (by omega) v xs.length (cellsS xs) hown ad ys.length c (cellsS ys) (by simp [cellsS]) hnews (cellsS_oneCell ys) (by unfold maxLen; omega) (by omega) hbase
    have hO : OwnS w' base v' (xs ++ ys) := by
      unfold OwnS
      rw [List.length_append, cellsS_append]
      exact h2
    obtain ⟨a', c', rfl⟩ := hform _ _ _ hO
    rw [List.length_append] at hr hO h5
    exact ⟨a', c', w', hr, hO, h3, h5⟩

theorem wpList_append_strs {ops : Array Oper} {rest : List Oper} {o : Oper} {a : Act} {w : World} {Q : Exit → Act → World → Prop} (hgd : o.guard = none) (s x : Operand)
    (ho : o.op = .call { callee := .builtin .append, args := #[s, x], argTypes := #[45, 45] })
    (base : Nat) (v : Value) (n : Nat) (xs ys : List ByteArray) (hs : a.eval s = v) (hn : n = xs.length) (hown : OwnS w base v xs) (A : Option Addr) (m c : Nat) (hx : a.eval x = .slice A m c) (hm : m = ys.length)
    (hsrc : m = 0 ∨ ∃ b off, A = some ⟨b, off, none⟩ ∧ StrsIn w b off ys) (hbig : n + m ≤ 4194304) (hbase : base ≤ w.heap.size)
    (h : ∀ a' c' w', OwnS w' base (.slice a' (n + m) c') (xs ++ ys) → w.grownBy w' v.ownBlock → ((Value.slice a' (n + m) c').ownBlock = v.ownBlock ∨ (Value.slice a' (n + m) c').ownBlock = some w.heap.size) → wpList Tryd.prog ops Q rest (a.put o.dst (.slice a' (n + m) c')) w') :
    wpList Tryd.prog ops Q (o :: rest) a w := by
  refine wpList_plain hgd fun K hK => ?_
  obtain ⟨a', c', w', hr, h2, h3, h4⟩ := run_append_strs w o.type base v n xs ys hn hown A m c hm hsrc hbig hbase
  unfold Oper.wp execOp
  simp only [ho, resolve, invoke, builtin, Sem.run_bind, Sem.run_pure, Result.andThen_ok, List.map_toArray, List.map_cons, List.map_nil, hs, hx, hr]
  exact hK _ _ (h a' c' w' h2 h3 h4)

theorem strs_one (w : World) (s : ByteArray) : StrsIn (w.alloc (.cells #[.string s] 9)) w.heap.size 0 [s] := fun i hi => by
  have h0 : i = 0 := by simpa using hi
  subst h0
  simp [go_sem]
theorem OwnS.one (w : World) (s : ByteArray) : OwnS (w.alloc (.cells #[.string s] 9)) w.heap.size (.slice (some ⟨w.heap.size, 0, none⟩) 1 1) [s] :=
  ⟨rfl, .inr ⟨w.heap.size, 1, #[.string s], rfl, Nat.le_refl _, heap_alloc_new w _, Nat.le_refl _, by unfold maxLen; omega, rfl, rfl⟩⟩
theorem own_grownS {B : Nat} {w w' : World} {v : Value} {ss : List ByteArray} (hO : OwnS w B v ss) (hg : w.grownBy w' v.ownBlock) (hB : B ≤ w.heap.size) : Below B w w' := below_of_grown hg (fun g h => (hO.lt g h).1) hB
/-- a row that the call owns stands aside while another value's row grows -/
theorem SRowB.aside {B : Nat} {w w' : World} {a : Option Addr} {v : Value} {ss zs : List ByteArray} (h : SRowB B w a ss) (hO : OwnS w B v zs) (hg : w.grownBy w' v.ownBlock) (hB : B ≤ w.heap.size) : SRowB B w' a ss :=
  h.grown hg hB (fun g e => (hO.lt g e).1)

/-- a byte, as a text -/
theorem conv_letter (x : Int) (W : World) (g : Nat) (hc : W.cell? ⟨g, 0, none⟩ = some (.int .u8 x)) :
    (convert 91 9 (.slice (some ⟨g, 0, none⟩) 1 1)).run Tryd.prog W = .ok (.string ⟨#[UInt8.ofNat x.toNat]⟩) W := by
  have h := run_convert_bytes_arg (P := Tryd.prog) W 91 5 Tryd.underlying91 Tryd.underlying5 g 0 1 1 [x] rfl (fun i hi => by
    obtain rfl : i = 0 := by omega
    simpa using hc) 9 Tryd.underlying9
  rw [h]
  rfl
end Go.Proofs.YtahkahmhagoacaaDoor
