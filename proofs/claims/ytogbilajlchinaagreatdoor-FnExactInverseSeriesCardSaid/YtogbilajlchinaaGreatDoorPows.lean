/-
  Rows of fractions that a call owns: what append leaves.
  Plain mathematics: sums of powers of a series' values, each power with a number; the numbers of exponentials, logarithms, inverses. No program is named here.
  The program's numbers of exponentials, logarithms and inverses: rows of fractions of the call's own.
-/
import Derived.Test.YtogbilajlchinaaGreatDoorOwn
import Derived.Test.YtogbilajlchinaaGreatDoorSumL
import Derived.Test.YtogbilajlchinaaGreatDoorPowSer
import Derived.Test.YtogbilajlchinaaGreatDoorAddL
namespace Go.Proofs.YtogbilajlchinaaGreatDoor
open Go.RowKit

def cellsR (zs : List (Int × Int)) : List Value := zs.flatMap fun z => [.int .i64 z.1, .int .i64 z.2]
theorem cellsR_append (xs ys : List (Int × Int)) : cellsR (xs ++ ys) = cellsR xs ++ cellsR ys := by simp [cellsR]
theorem cellsR_cons (t : Int × Int) (ts : List (Int × Int)) : cellsR (t :: ts) = [.int .i64 t.1, .int .i64 t.2] ++ cellsR ts := rfl
theorem cellsR_length : ∀ ts : List (Int × Int), (cellsR ts).length = ts.length * 2
  | [] => rfl
  | t :: ts => by rw [cellsR_cons, List.length_append, cellsR_length ts]; simp; omega
theorem cellsR_get : ∀ (ts : List (Int × Int)) (i : Nat) (h : i < ts.length), (cellsR ts)[i * 2]? = some (.int .i64 (ts[i]).1) ∧ (cellsR ts)[i * 2 + 1]? = some (.int .i64 (ts[i]).2)
  | [], i, h => by simp at h
  | t :: ts, 0, _ => by simp [cellsR_cons]
  | t :: ts, i + 1, h => by
    have ih := cellsR_get ts i (by simpa using h)
    have e0 : (i + 1) * 2 = (i * 2) + 2 := by omega
    have e1 : (i + 1) * 2 + 1 = (i * 2 + 1) + 2 := by omega
    rw [e1, e0, cellsR_cons]
    have k : ∀ j, ([.int .i64 t.1, .int .i64 t.2] ++ cellsR ts)[j + 2]? = (cellsR ts)[j]? := fun j => by
      rw [List.getElem?_append_right (by simp)]; simp
    rw [k, k]
    simpa using ih
theorem cellsR_oneCell (ts : List (Int × Int)) : ∀ u ∈ cellsR ts, u.oneCell' = true := fun u hu => by
  unfold cellsR at hu
  obtain ⟨t, _, h⟩ := List.mem_flatMap.1 hu
  simp at h
  rcases h with rfl | rfl <;> rfl
/-- fractions in memory -/
def FrsIn (w : World) (b off : Nat) (zs : List (Int × Int)) : Prop := ∀ i (h : i < zs.length), w.cell? ⟨b, off + i * 2, none⟩ = some (.int .i64 (zs[i]).1) ∧ w.cell? ⟨b, off + i * 2 + 1, none⟩ = some (.int .i64 (zs[i]).2)
theorem FrsIn.below {w w' : World} {B b off : Nat} {zs : List (Int × Int)} (h : FrsIn w b off zs) (hb : Below B w w') (hlt : b < B) : FrsIn w' b off zs := fun i hi =>
  ⟨(hb.cell (p := ⟨b, off + i * 2, none⟩) hlt).trans (h i hi).1, (hb.cell (p := ⟨b, off + i * 2 + 1, none⟩) hlt).trans (h i hi).2⟩
theorem frs_news {w : World} {b off : Nat} {ts : List (Int × Int)} (h : FrsIn w b off ts) : ∀ j u, (cellsR ts)[j]? = some u → w.cell? ((⟨b, off, none⟩ : Addr).add j) = some u := fun j u hu => by
  have hj : j < ts.length * 2 := by have := (List.getElem?_eq_some_iff.1 hu).1; rwa [cellsR_length] at this
  have hi : j / 2 < ts.length := by omega
  obtain ⟨a0, a1⟩ := cellsR_get ts (j / 2) hi
  obtain ⟨c0, c1⟩ := h (j / 2) hi
  rw [add_at]
  have hr : j = j / 2 * 2 ∨ j = j / 2 * 2 + 1 := by omega
  rcases hr with e | e
  · rw [e, a0] at hu; rw [e, c0]; exact hu
  · rw [e, a1] at hu; rw [e, ← Nat.add_assoc, c1]; exact hu
/-- a row of fractions of the call's own; a row of fractions -/
def NewR (lo hi : Nat) (w : World) (a : Option Addr) (zs : List (Int × Int)) : Prop := zs = [] ∨ ∃ g, a = some ⟨g, 0, none⟩ ∧ lo ≤ g ∧ g < hi ∧ FrsIn w g 0 zs
theorem NewR.mono {lo hi lo' hi' : Nat} {w : World} {a : Option Addr} {zs : List (Int × Int)} (h : NewR lo hi w a zs) (h1 : lo' ≤ lo) (h2 : hi ≤ hi') : NewR lo' hi' w a zs := by
  rcases h with h | ⟨g, e, q1, q2, q3⟩
  · exact .inl h
  · exact .inr ⟨g, e, by omega, by omega, q3⟩
theorem NewR.below {lo hi B : Nat} {w w' : World} {a : Option Addr} {zs : List (Int × Int)} (h : NewR lo hi w a zs) (hb : Below B w w') (hh : hi ≤ B) : NewR lo hi w' a zs := by
  rcases h with h | ⟨g, e, q1, q2, q3⟩
  · exact .inl h
  · exact .inr ⟨g, e, q1, q2, q3.below hb (by omega)⟩
theorem info_frac2 : (Tryz.prog.info? 47).map (fun i => (i.zero, i.size, i.bytes)) = some (some (.agg #[.int .i64 0, .int .i64 0]), 2, 16) := by kernel_rfl
/-- the value owns the fractions, in a row from the block `base` on -/
def OwnR (w : World) (base : Nat) (v : Value) (ts : List (Int × Int)) : Prop := w.ownsRow base 47 2 v ts.length (cellsR ts)
theorem OwnR.nil (w : World) (base : Nat) : OwnR w base (.slice none 0 0) [] := World.ownsRow_nil w base _ 2
theorem OwnR.emptyRow {w : World} {base g : Nat} (h : w.heap[g]? = some (.cells #[] 47 (0, 0))) (hb : base ≤ g) : OwnR w base (.slice (some ⟨g, 0, none⟩) 0 0) [] :=
  ⟨rfl, .inr ⟨g, 0, #[], rfl, hb, h, Nat.le_refl _, by unfold maxLen; omega, rfl, rfl⟩⟩
theorem OwnR.mono {w : World} {base base' : Nat} {v : Value} {ss : List (Int × Int)} (h : OwnR w base v ss) (hb : base' ≤ base) : OwnR w base' v ss := by
  rcases h with ⟨hl, h⟩
  refine ⟨hl, ?_⟩
  rcases h with h | ⟨g, cap, cur, e, hbg, rest⟩
  · exact .inl h
  · exact .inr ⟨g, cap, cur, e, Nat.le_trans hb hbg, rest⟩
theorem OwnR.newRow {w : World} {base : Nat} {v : Value} {ts : List (Int × Int)} (h : OwnR w base v ts) : ∃ a cap, v = .slice a ts.length cap ∧ ts.length ≤ cap ∧ NewR base w.heap.size w a ts := by
  rcases h.2 with ⟨rfl, h0⟩ | ⟨g, cap, cur, rfl, hbg, hg, hnc, hcm, hcs, htake⟩
  · have e : ts = [] := List.eq_nil_of_length_eq_zero h0
    subst e
    exact ⟨none, 0, rfl, Nat.le_refl _, .inl rfl⟩
  · have hlt : g < w.heap.size := by
      rcases Nat.lt_or_ge g w.heap.size with hlt | hge
      · exact hlt
      · rw [Array.getElem?_eq_none hge] at hg; cases hg
    have hcell : ∀ j, w.cell? ⟨g, j, none⟩ = cur[j]? := fun j => cell_of_row w g j cur _ (0, 0) hg
    have hsz : ts.length * 2 ≤ cur.size := by rw [hcs]; exact Nat.mul_le_mul_right 2 hnc
    have hat : ∀ j, j < ts.length * 2 → cur[j]? = (cellsR ts)[j]? := fun j hj => by
      rw [← htake, List.getElem?_take, if_pos hj]; simp
    refine ⟨some ⟨g, 0, none⟩, cap, rfl, hnc, .inr ⟨g, rfl, hbg, hlt, fun i hi => ?_⟩⟩
    obtain ⟨a0, a1⟩ := cellsR_get ts i hi
    simp only [Nat.zero_add]
    exact ⟨by rw [hcell, hat _ (by omega), a0], by rw [hcell, hat _ (by omega), a1]⟩
theorem OwnR.below {B base : Nat} {w w' : World} {v : Value} {ts : List (Int × Int)} (h : OwnR w base v ts) (hb : Below B w w') (hv : ∀ g, v.ownBlock = some g → g < B) : OwnR w' base v ts := by
  rcases h with ⟨hl, h⟩
  refine ⟨hl, ?_⟩
  rcases h with h | ⟨g, cap, cur, rfl, hbg, hg, rest⟩
  · exact .inl h
  · exact .inr ⟨g, cap, cur, rfl, hbg, by rw [hb.block g (hv g rfl)]; exact hg, rest⟩
theorem OwnR.lt {base : Nat} {w : World} {v : Value} {ts : List (Int × Int)} (h : OwnR w base v ts) : ∀ g, v.ownBlock = some g → base ≤ g ∧ g < w.heap.size := fun g hv => by
  rcases h.2 with ⟨rfl, h0⟩ | ⟨g', cap, cur, rfl, hbg, hg, hnc, hcm, hcs, htake⟩
  · simp [Value.ownBlock] at hv
  · have e : g' = g := by simpa [Value.ownBlock] using hv
    subst e
    refine ⟨hbg, ?_⟩
    rcases Nat.lt_or_ge g' w.heap.size with hlt | hge
    · exact hlt
    · rw [Array.getElem?_eq_none hge] at hg; cases hg
theorem OwnR.far {base : Nat} {w : World} {v : Value} {ts : List (Int × Int)} (h : OwnR w base v ts) {p : Addr} (hp : v.ownBlock ≠ some p.block) (u : Value) : OwnR (w.setCell p u) base v ts := by
  rcases h with ⟨hl, h⟩
  refine ⟨hl, ?_⟩
  rcases h with h | ⟨g, cap, cur, rfl, hbg, hg, rest⟩
  · exact .inl h
  · refine .inr ⟨g, cap, cur, rfl, hbg, ?_, rest⟩
    rw [Below.heap_setCell w p u g (fun e => hp (by rw [← e]; rfl))]; exact hg
theorem OwnR.alloc {base : Nat} {w : World} {v : Value} {ts : List (Int × Int)} (h : OwnR w base v ts) (o : Obj) : OwnR (w.alloc o) base v ts :=
  h.below (below1 w o) (fun g hg => (h.lt g hg).2)
set_option maxRecDepth 100000 in
theorem run_append_frs (w : World) (ty : TypeId) (base : Nat) (v : Value) (n : Nat) (xs ys : List (Int × Int)) (hn : n = xs.length) (hown : OwnR w base v xs) (A : Option Addr) (m c : Nat) (hm : m = ys.length)
    (hsrc : m = 0 ∨ ∃ b off, A = some ⟨b, off, none⟩ ∧ FrsIn w b off ys) (hbig : n + m ≤ 4194304) (hbase : base ≤ w.heap.size) :
    ∃ a' c' w', (Builtin.append_ #[68, 68] ty #[v, .slice A m c]).run Tryz.prog w = .ok (.slice a' (n + m) c') w' ∧ OwnR w' base (.slice a' (n + m) c') (xs ++ ys) ∧ w.grownBy w' v.ownBlock ∧
      ((Value.slice a' (n + m) c').ownBlock = v.ownBlock ∨ (Value.slice a' (n + m) c').ownBlock = some w.heap.size) := by
  obtain ⟨i0, hi0, hi1, hi2, hi3⟩ := info_parts info_frac2
  subst hn hm
  have hform : ∀ (W : World) (u : Value) (zs : List (Int × Int)), OwnR W base u zs → ∃ a' c', u = .slice a' zs.length c' := fun W u zs h => by
    obtain ⟨a', c', h1, _, _⟩ := h.newRow
    exact ⟨a', c', h1⟩
  rcases A with _ | ad
  · have h0 : ys = [] := by
      rcases hsrc with h | ⟨b, off, h, _⟩
      · exact List.eq_nil_of_length_eq_zero h
      · cases h
    subst h0
    obtain ⟨a', c', rfl⟩ := hform _ _ _ hown
    refine ⟨a', c', w, ?_, by simpa using hown, World.grownBy.refl w _, .inl rfl⟩
    rcases hown.2 with ⟨h1, h2⟩ | ⟨g, cap, cur, h1, _, _, hnc, _⟩
    · injection h1 with e1 e2 e3
      subst e1 e3
      simp [Builtin.append_, run_underlying Tryz.underlying68, sizeOf, typeInfo, hi0, Builtin.lenOf, Builtin.firstCells, h2]
    · injection h1 with e1 e2 e3
      subst e1 e3
      simp [Builtin.append_, run_underlying Tryz.underlying68, sizeOf, typeInfo, hi0, Builtin.lenOf, Builtin.firstCells, hnc, storeCells]
  · have hnews : ∀ j u, (cellsR ys)[j]? = some u → w.cell? (ad.add j) = some u := fun j u hu => by
      rcases hsrc with h | ⟨b, off, h, ht⟩
      · have e : ys = [] := List.eq_nil_of_length_eq_zero h
        subst e
        simp [cellsR] at hu
      · cases h
        exact frs_news ht j u hu
    obtain ⟨v', w', hr, h2, h3, _, h5⟩ := run_append_own_at (P := Tryz.prog) w base 68 ty 47 i0 _ 2 16 Tryz.underlying68 hi0 hi1 hi2 hi3 rfl (by omega) v xs.length (cellsR xs) hown ad ys.length c (cellsR ys) (cellsR_length ys) hnews (cellsR_oneCell ys) (by unfold maxLen; omega) (by omega) hbase
    have hO : OwnR w' base v' (xs ++ ys) := by
      unfold OwnR
      rw [List.length_append, cellsR_append]
      exact h2
    obtain ⟨a', c', rfl⟩ := hform _ _ _ hO
    rw [List.length_append] at hr hO h5
    exact ⟨a', c', w', hr, hO, h3, h5⟩

theorem wpList_append_frs {ops : Array Oper} {rest : List Oper} {o : Oper} {a : Act} {w : World} {Q : Exit → Act → World → Prop} (hgd : o.guard = none) (s x : Operand)
    (ho : o.op = .call { callee := .builtin .append, args := #[s, x], argTypes := #[68, 68] })
    (base : Nat) (v : Value) (n : Nat) (xs ys : List (Int × Int)) (hs : a.eval s = v) (hn : n = xs.length) (hown : OwnR w base v xs) (A : Option Addr) (m c : Nat) (hx : a.eval x = .slice A m c) (hm : m = ys.length)
    (hsrc : m = 0 ∨ ∃ b off, A = some ⟨b, off, none⟩ ∧ FrsIn w b off ys) (hbig : n + m ≤ 4194304) (hbase : base ≤ w.heap.size)
    (h : ∀ a' c' w', OwnR w' base (.slice a' (n + m) c') (xs ++ ys) → w.grownBy w' v.ownBlock → ((Value.slice a' (n + m) c').ownBlock = v.ownBlock ∨ (Value.slice a' (n + m) c').ownBlock = some w.heap.size) → wpList Tryz.prog ops Q rest (a.put o.dst (.slice a' (n + m) c')) w') :
    wpList Tryz.prog ops Q (o :: rest) a w := by
  refine wpList_plain hgd fun K hK => ?_
  obtain ⟨a', c', w', hr, h2, h3, h4⟩ := run_append_frs w o.type base v n xs ys hn hown A m c hm hsrc hbig hbase
  unfold Oper.wp execOp
  simp only [ho, resolve, invoke, builtin, Sem.run_bind, Sem.run_pure, Result.andThen_ok, List.map_toArray, List.map_cons, List.map_nil, hs, hx, hr]
  exact hK _ _ (h a' c' w' h2 h3 h4)


theorem frs_one (w : World) (n d : Int) : FrsIn (w.alloc (.cells #[.int .i64 n, .int .i64 d] 47)) w.heap.size 0 [(n, d)] := fun i hi => by
  have h0 : i = 0 := by simpa using hi
  subst h0
  simp [go_sem]
theorem OwnR.one (w : World) (n d : Int) : OwnR (w.alloc (.cells #[.int .i64 n, .int .i64 d] 47)) w.heap.size (.slice (some ⟨w.heap.size, 0, none⟩) 1 1) [(n, d)] :=
  ⟨rfl, .inr ⟨w.heap.size, 1, #[.int .i64 n, .int .i64 d], rfl, Nat.le_refl _, heap_alloc_new w _, Nat.le_refl _, by unfold maxLen; omega, rfl, rfl⟩⟩
theorem own_grownR {B : Nat} {w w' : World} {v : Value} {ss : List (Int × Int)} (hO : OwnR w B v ss) (hg : w.grownBy w' v.ownBlock) (hB : B ≤ w.heap.size) : Below B w w' := below_of_grown hg (fun g h => (hO.lt g h).1) hB
end Go.Proofs.YtogbilajlchinaaGreatDoor

namespace Go.Proofs.YtogbilajlchinaaGreatDoor

def noneF : VF := fun _ => none
/-- the sum of the first k powers, each with its number -/
def sumK (y : VF) (ws : List ByteArray) (f : Nat → Int × Int) : Nat → Option VF
  | 0 => some noneF
  | k + 1 => (sumK y ws f k).bind fun s => (powV y ws k).bind fun p => addK p (f k).1 (f k).2 ws s
theorem sumK_next {y s p : VF} {ws : List ByteArray} {f : Nat → Int × Int} {k : Nat} (h : sumK y ws f k = some s) (hp : powV y ws k = some p) : sumK y ws f (k + 1) = addK p (f k).1 (f k).2 ws s := by
  rw [sumK, h, Option.bind_some, hp]; rfl
theorem sumK_noP {y : VF} {ws : List ByteArray} {f : Nat → Int × Int} {k : Nat} (hp : powV y ws k = none) : sumK y ws f (k + 1) = none := by
  rw [sumK, hp]
  cases sumK y ws f k <;> rfl
theorem sumK_dead {y : VF} {ws : List ByteArray} {f : Nat → Int × Int} {k : Nat} (h : sumK y ws f k = none) : ∀ {m : Nat}, k ≤ m → sumK y ws f m = none
  | 0, hm => by obtain rfl : k = 0 := by omega
                exact h
  | m + 1, hm => by
    by_cases e : k = m + 1
    · subst e; exact h
    · rw [sumK, sumK_dead h (show k ≤ m by omega)]; rfl
theorem good_none (ws : List ByteArray) : GoodV ws noneF := GoodV.none ws
theorem sumK_good {y : VF} {ws : List ByteArray} {f : Nat → Int × Int} : ∀ {k : Nat} {s : VF}, sumK y ws f k = some s → GoodV ws s
  | 0, s, h => by rw [sumK] at h; injection h with h; rw [← h]; exact good_none ws
  | k + 1, s, h => by
    rw [sumK] at h
    obtain ⟨q, h1, h2⟩ := Option.bind_eq_some_iff.1 h
    obtain ⟨p, _, h3⟩ := Option.bind_eq_some_iff.1 h2
    exact GoodV.addK (sumK_good h1) (fun _ h => h) h3
/-- the unit with the number 0 adds nothing to nothing -/
theorem addK_zero : ∀ ws : List ByteArray, addK unitF 0 1 ws noneF = some noneF
  | [] => rfl
  | s :: ws => by
    have h : addStep unitF 0 1 noneF s = some noneF := by
      cases hs : unitF s with
      | none => exact addStep_none hs
      | some v =>
        have hv : v = (1, 1) := by
          unfold unitF setF at hs
          split at hs
          · injection hs with hs; exact hs.symm
          · cases hs
        subst hv
        rw [addStep_some hs, valF_none (show noneF s = none from rfl)]
        have e : apS 0 1 1 1 0 1 = some (0, 1) := by decide
        rw [e, Option.map_some, nzF_0 rfl]
        congr 1
        funext t
        unfold setF noneF
        split <;> rfl
    rw [addK, h, Option.bind_some, addK_zero ws]

def fct : Nat → Int
  | 0 => 1
  | k + 1 => fct k * ((k : Int) + 1)
def expF (k : Nat) : Int × Int := (1, fct k)
def sgn (k : Nat) : Int := if k % 2 = 0 then 1 else -1
def logF (k : Nat) : Int × Int := if k = 0 then (0, 1) else (sgn (k + 1), k)
def altF (k : Nat) : Int × Int := (sgn k, 1)
def numL (f : Nat → Int × Int) (n : Nat) : List (Int × Int) := (List.range n).map f
theorem numL_length (f : Nat → Int × Int) (n : Nat) : (numL f n).length = n := by simp [numL]
theorem numL_succ (f : Nat → Int × Int) (n : Nat) : numL f (n + 1) = numL f n ++ [f n] := by simp [numL, List.range_succ]
theorem numL_get {f : Nat → Int × Int} {n i : Nat} (h : i < (numL f n).length) : (numL f n)[i] = f i := by simp [numL]
theorem fct_bd {k : Nat} (h : k ≤ 6) : 1 ≤ fct k ∧ fct k ≤ 720 := by
  have h7 : k = 0 ∨ k = 1 ∨ k = 2 ∨ k = 3 ∨ k = 4 ∨ k = 5 ∨ k = 6 := by omega
  rcases h7 with rfl | rfl | rfl | rfl | rfl | rfl | rfl <;> decide
theorem sgn_next (k : Nat) : sgn (k + 1) = - sgn k := by
  unfold sgn
  by_cases h : k % 2 = 0
  · rw [if_pos h, if_neg (by omega)]
  · rw [if_neg h, if_pos (by omega)]; rfl
theorem sgn_bd (k : Nat) : sgn k = 1 ∨ sgn k = -1 := by
  unfold sgn
  split
  · exact .inl rfl
  · exact .inr rfl
theorem expF_isF {k : Nat} (h : k ≤ 5) : isF (expF k).1 (expF k).2 = true := by
  have h7 : k = 0 ∨ k = 1 ∨ k = 2 ∨ k = 3 ∨ k = 4 ∨ k = 5 := by omega
  rcases h7 with rfl | rfl | rfl | rfl | rfl | rfl <;> decide
theorem logF_isF {k : Nat} (h : k ≤ 5) : isF (logF k).1 (logF k).2 = true := by
  have h7 : k = 0 ∨ k = 1 ∨ k = 2 ∨ k = 3 ∨ k = 4 ∨ k = 5 := by omega
  rcases h7 with rfl | rfl | rfl | rfl | rfl | rfl <;> decide
theorem altF_isF (k : Nat) : isF (altF k).1 (altF k).2 = true := by
  unfold altF
  rcases sgn_bd k with h | h <;> rw [h] <;> decide
theorem expF_nz (k : Nat) : (expF k).1 ≠ 0 := by simp [expF]
theorem altF_nz (k : Nat) : (altF k).1 ≠ 0 := by
  unfold altF
  rcases sgn_bd k with h | h <;> rw [h] <;> decide
theorem logF_nz {k : Nat} (h : k ≠ 0) : (logF k).1 ≠ 0 := by
  unfold logF
  rw [if_neg h]
  rcases sgn_bd (k + 1) with h | h <;> rw [h] <;> simp
end Go.Proofs.YtogbilajlchinaaGreatDoor

namespace Go.Proofs.YtogbilajlchinaaGreatDoor
open Go.RowKit

/-- a function that returns a row of fractions of its own -/
def NumsR (zs : List (Int × Int)) (W : World) (e : Ending) (w' : World) : Prop := ∃ (a : Option Addr) (c : Nat), e = .returned (.slice a zs.length c) ∧ Below W.heap.size W w' ∧ NewR W.heap.size w'.heap.size w' a zs
theorem OwnR.end_ {w w' : World} {a : Option Addr} {l c : Nat} {zs : List (Int × Int)} (h : OwnR w' w.heap.size (.slice a l c) zs) : l = zs.length ∧ NewR w.heap.size w'.heap.size w' a zs := by
  obtain ⟨a', c', he, _, hN⟩ := h.newRow
  injection he with e1 e2 e3
  subst e1 e2
  exact ⟨rfl, hN⟩

set_option maxHeartbeats 2000000 in
theorem expNumbers_c (N : Nat) (hN : N ≤ 5) (w : World) : Calls Tryz.prog 98 #[.int .i64 N] w (NumsR (numL expF (N + 1)) w) := by
  go_enter Tryz.func98, Tryz.ntmps98
  go_wp2_with fail
  refine (wholeFraction_c _ _).mono ?_
  rintro e w1 ⟨rfl, hb1⟩
  have hz1 := hb1.size
  have HB1 := Lib.hid hb1
  clear hb1
  go_wp2_with fail
  go_loopw [3, 4, 9] (fun vl vf vk wr => ∃ (k : Nat) (a : Option Addr) (l c : Nat), k ≤ N ∧ vk = .int .i64 k ∧ vf = .int .i64 (fct k) ∧ vl = .slice a l c ∧ l = k + 1 ∧ OwnR wr w.heap.size (.slice a l c) (numL expF (k + 1)) ∧ Below w.heap.size w wr) (fun _ _ vk _ => N - (intOf vk).toNat)
  case atStart => exact ⟨0, _, 1, 1, Nat.zero_le _, rfl, rfl, rfl, rfl, (OwnR.one w1 1 1).mono hz1, HB1.out.alloc hz1 _⟩
  case round =>
    obtain ⟨k, av, lv, cv, hk, rfl, rfl, rfl, hl, hO, hB⟩ := hrel
    have HO := Lib.hid hO
    have HL := Lib.hid hl
    have HB := Lib.hid hB
    have HSz := Lib.hid hB.size
    have hl9 : lv ≤ 6 := by omega
    have hf1 := fct_bd (k := k) (by omega)
    have hf2 := fct_bd (k := k + 1) (by omega)
    have HF := Lib.hid (show fct (k + 1) = fct k * ((k : Int) + 1) from rfl)
    rw [HF.out] at hf2
    have HNs := Lib.hid (numL_succ expF (k + 1))
    have HE := Lib.hid (show expF (k + 1) = (1, fct k * ((k : Int) + 1)) from rfl)
    rw [HE.out] at HNs
    generalize fct k = q at *
    obtain ⟨r, hr⟩ : ∃ r, q * ((k : Int) + 1) = r := ⟨_, rfl⟩
    rw [hr] at hf2 HF HNs HE
    clear hO hl hB
    by_cases hlt : k < N
    · go_wp2_with (at_builtin; refine wpList_append_frs rfl _ _ rfl w.heap.size (.slice av lv cv) lv (numL expF (k + 1)) [(1, r)] rfl (by rw [numL_length]; exact HL.out) (HO.out.alloc _) (some ⟨wr.heap.size, 0, none⟩) 1 1 rfl rfl (.inr ⟨wr.heap.size, 0, rfl, frs_one wr 1 r⟩) (by omega) (by have := HSz.out; simp; omega) ?_)
      intro a3 c3 w3 hO3 hG3 _
      have HB3 := Lib.hid (HB.out.trans (((below1 wr (.cells #[.int .i64 1, .int .i64 r] 47)).mono HSz.out).trans (own_grownR (HO.out.alloc _) hG3 (by have := HSz.out; simp; omega))))
      have HO3 := Lib.hid hO3
      clear hO3 hG3
      go_wp2
      go_roundw
      case rel => exact ⟨k + 1, a3, lv + 1, c3, by omega, by go_num, by rw [HF.out], rfl, by rw [HL.out], by rw [HNs.out]; exact HO3.out, HB3.out⟩
      case measure => simp [intOf]; omega
    · obtain rfl : k = N := by omega
      go_wp2
      go_ret
      exact ⟨av, cv, by rw [numL_length, ← HL.out]; rfl, HB.out, HO.out.end_.2⟩
set_option maxHeartbeats 2000000 in
theorem logNumbers_c (N : Nat) (hN : N ≤ 5) (w : World) : Calls Tryz.prog 99 #[.int .i64 N] w (NumsR (numL logF (N + 1)) w) := by
  go_enter Tryz.func99, Tryz.ntmps99
  go_wp2_with fail
  refine (wholeFraction_c _ _).mono ?_
  rintro e w1 ⟨rfl, hb1⟩
  have hz1 := hb1.size
  have HB1 := Lib.hid hb1
  clear hb1
  go_wp2_with fail
  go_loopw [3, 4, 9] (fun vl vf vk wr => ∃ (k : Nat) (a : Option Addr) (l c : Nat), k ≤ N ∧ vk = .int .i64 k ∧ vf = .int .i64 (sgn k) ∧ vl = .slice a l c ∧ l = k + 1 ∧ OwnR wr w.heap.size (.slice a l c) (numL logF (k + 1)) ∧ Below w.heap.size w wr) (fun _ _ vk _ => N - (intOf vk).toNat)
  case atStart => exact ⟨0, _, 1, 1, Nat.zero_le _, rfl, rfl, rfl, rfl, (OwnR.one w1 0 1).mono hz1, HB1.out.alloc hz1 _⟩
  case round =>
    obtain ⟨k, av, lv, cv, hk, rfl, rfl, rfl, hl, hO, hB⟩ := hrel
    have HO := Lib.hid hO
    have HL := Lib.hid hl
    have HB := Lib.hid hB
    have HSz := Lib.hid hB.size
    have hl9 : lv ≤ 6 := by omega
    have hsg := sgn_bd k
    have hsg2 : -1 ≤ sgn k ∧ sgn k ≤ 1 := by omega
    have HF := Lib.hid (sgn_next k)
    have HNs := Lib.hid (numL_succ logF (k + 1))
    have HE := Lib.hid (show logF (k + 1) = (sgn k, (k : Int) + 1) from by
      unfold logF
      rw [if_neg (by omega), sgn_next, sgn_next, Int.neg_neg]
      simp)
    rw [HE.out] at HNs
    generalize sgn k = q at *
    clear hO hl hB hsg
    by_cases hlt : k < N
    · go_wp2_with (at_builtin; refine wpList_append_frs rfl _ _ rfl w.heap.size (.slice av lv cv) lv (numL logF (k + 1)) [(q, (k : Int) + 1)] rfl (by rw [numL_length]; exact HL.out) (HO.out.alloc _) (some ⟨wr.heap.size, 0, none⟩) 1 1 rfl rfl (.inr ⟨wr.heap.size, 0, rfl, frs_one wr q ((k : Int) + 1)⟩) (by omega) (by have := HSz.out; simp; omega) ?_)
      intro a3 c3 w3 hO3 hG3 _
      have HB3 := Lib.hid (HB.out.trans (((below1 wr (.cells #[.int .i64 q, .int .i64 ((k : Int) + 1)] 47)).mono HSz.out).trans (own_grownR (HO.out.alloc _) hG3 (by have := HSz.out; simp; omega))))
      have HO3 := Lib.hid hO3
      clear hO3 hG3
      go_wp2
      go_roundw
      case rel => exact ⟨k + 1, a3, lv + 1, c3, by omega, by go_num, by rw [HF.out], rfl, by rw [HL.out], by rw [HNs.out]; exact HO3.out, HB3.out⟩
      case measure => simp [intOf]; omega
    · obtain rfl : k = N := by omega
      go_wp2
      go_ret
      exact ⟨av, cv, by rw [numL_length, ← HL.out]; rfl, HB.out, HO.out.end_.2⟩
set_option maxHeartbeats 2000000 in
theorem altNumbers_c (N : Nat) (hN : N ≤ 5) (w : World) : Calls Tryz.prog 48 #[.int .i64 N] w (NumsR (numL altF (N + 1)) w) := by
  go_enter Tryz.func48, Tryz.ntmps48
  go_wp2_with fail
  go_loopw [3, 4, 7] (fun vl vf vk wr => ∃ (k : Nat) (a : Option Addr) (l c : Nat), k ≤ N + 1 ∧ vk = .int .i64 k ∧ vf = .int .i64 (sgn k) ∧ vl = .slice a l c ∧ l = k ∧ OwnR wr w.heap.size (.slice a l c) (numL altF k) ∧ Below w.heap.size w wr) (fun _ _ vk _ => N + 1 - (intOf vk).toNat)
  case atStart => exact ⟨0, none, 0, 0, Nat.zero_le _, rfl, rfl, rfl, rfl, OwnR.nil _ _, Below.refl _ _⟩
  case round =>
    obtain ⟨k, av, lv, cv, hk, rfl, rfl, rfl, hl, hO, hB⟩ := hrel
    have HO := Lib.hid hO
    have HL := Lib.hid hl
    have HB := Lib.hid hB
    have HSz := Lib.hid hB.size
    have hl9 : lv ≤ 6 := by omega
    have hsg := sgn_bd k
    have hsg2 : -1 ≤ sgn k ∧ sgn k ≤ 1 := by omega
    have HF := Lib.hid (sgn_next k)
    have HNs := Lib.hid (numL_succ altF k)
    have HE := Lib.hid (show altF k = (sgn k, 1) from rfl)
    rw [HE.out] at HNs
    generalize sgn k = q at *
    clear hO hl hB hsg
    by_cases hlt : k < N + 1
    · have hki : (k : Int) < (N : Int) + 1 := by omega
      go_wp2_with fail
      refine (wholeFraction_c _ _).mono ?_
      rintro e w2 ⟨rfl, hb2⟩
      have hz2 := hb2.size
      have HO2 := Lib.hid (HO.out.below hb2 (fun g hg => (HO.out.lt g hg).2))
      have HB2 := Lib.hid (HB.out.trans (hb2.mono HSz.out))
      have HSz2 := Lib.hid (show w.heap.size ≤ w2.heap.size by have := HSz.out; omega)
      clear hb2
      go_wp2_with (at_builtin; refine wpList_append_frs rfl _ _ rfl w.heap.size (.slice av lv cv) lv (numL altF k) [(q, 1)] rfl (by rw [numL_length]; exact HL.out) (HO2.out.alloc _) (some ⟨w2.heap.size, 0, none⟩) 1 1 rfl rfl (.inr ⟨w2.heap.size, 0, rfl, frs_one w2 q 1⟩) (by omega) (by have := HSz2.out; simp; omega) ?_)
      intro a3 c3 w3 hO3 hG3 _
      have HB3 := Lib.hid (HB2.out.trans (((below1 w2 (.cells #[.int .i64 q, .int .i64 1] 47)).mono HSz2.out).trans (own_grownR (HO2.out.alloc _) hG3 (by have := HSz2.out; simp; omega))))
      have HO3 := Lib.hid hO3
      clear hO3 hG3
      go_wp2
      go_roundw
      case rel => exact ⟨k + 1, a3, lv + 1, c3, by omega, by go_num, by rw [HF.out], rfl, by rw [HL.out], by rw [HNs.out]; exact HO3.out, HB3.out⟩
      case measure => simp [intOf]; omega
    · have hki : ¬ (k : Int) < (N : Int) + 1 := by omega
      obtain rfl : k = N + 1 := by omega
      go_wp2
      go_ret
      exact ⟨av, cv, by rw [numL_length, ← HL.out]; rfl, HB.out, HO.out.end_.2⟩
end Go.Proofs.YtogbilajlchinaaGreatDoor
