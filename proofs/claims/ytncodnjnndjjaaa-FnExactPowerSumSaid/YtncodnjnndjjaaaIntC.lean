/-
  append onto a row of numbers of the call's own; slices.Concat at two rows, slices.Clone.
  slices.Clone of a row of numbers, slices.Concat at two rows of numbers.
-/
import Derived.Test.YtncodnjnndjjaaaPaths
import Derived.Test.YtncodnjnndjjaaaPartOf
import Derived.Deep.RegionLaw
import Derived.WalkSpells
import Derived.OwnWalk
import Derived.Laws.Pointers
import Derived.Lib.AppendZerosOnto
import Derived.Lib.Walk
import Derived.Lib.LazyBuf
namespace Go.Proofs.Ytncodnjnndjjaaa
open Go.RowKit

def cellsI (ss : List Int) : List Value := ss.map (Value.int .i64)
/-- the value owns the words, in a row from the block `base` on -/
def OwnI (w : World) (base : Nat) (v : Value) (ss : List Int) : Prop := w.ownsRow base 2 1 v ss.length (cellsI ss)
theorem OwnI.nil (w : World) (base : Nat) : OwnI w base (.slice none 0 0) [] := World.ownsRow_nil w base _ 1
theorem OwnI.newI {w : World} {base : Nat} {v : Value} {ss : List Int} (h : OwnI w base v ss) : ∃ a cap, v = .slice a ss.length cap ∧ ss.length ≤ cap ∧ NewI base w.heap.size w a ss := by
  rcases h.2 with ⟨rfl, h0⟩ | ⟨g, cap, cur, rfl, hbg, hg, hnc, hcm, hcs, htake⟩
  · have e : ss = [] := List.eq_nil_of_length_eq_zero h0
    subst e
    exact ⟨none, 0, rfl, Nat.le_refl _, .inl rfl⟩
  · have hlt : g < w.heap.size := by
      rcases Nat.lt_or_ge g w.heap.size with hlt | hge
      · exact hlt
      · rw [Array.getElem?_eq_none hge] at hg; cases hg
    have hcell : ∀ j, w.cell? ⟨g, j, none⟩ = cur[j]? := fun j => cell_of_row w g j cur _ (0, 0) hg
    have hsz : ss.length ≤ cur.size := by rw [hcs]; omega
    have hat : ∀ j, j < ss.length → cur[j]? = (cellsI ss)[j]? := fun j hj => by
      rw [← htake, List.getElem?_take, if_pos (by omega)]; simp
    refine ⟨some ⟨g, 0, none⟩, cap, rfl, hnc, .inr ⟨g, rfl, hbg, hlt, ⟨hlt, fun j hj => ⟨?_, ?_⟩⟩, fun i hi => ?_⟩⟩
    · exact ⟨cur[j]'(by omega), by rw [hcell]; exact Array.getElem?_eq_getElem (by omega)⟩
    · simp [World.frozen?, hg]
    · rw [hcell, Nat.zero_add, hat i hi]
      simp [cellsI]
theorem OwnI.below {B base : Nat} {w w' : World} {v : Value} {ss : List Int} (h : OwnI w base v ss) (hb : Below B w w') (hv : ∀ g, v.ownBlock = some g → g < B) : OwnI w' base v ss := by
  rcases h with ⟨hl, h⟩
  refine ⟨hl, ?_⟩
  rcases h with h | ⟨g, cap, cur, rfl, hbg, hg, rest⟩
  · exact .inl h
  · exact .inr ⟨g, cap, cur, rfl, hbg, by rw [hb.block g (hv g rfl)]; exact hg, rest⟩
theorem OwnI.lt {base : Nat} {w : World} {v : Value} {ss : List Int} (h : OwnI w base v ss) : ∀ g, v.ownBlock = some g → base ≤ g ∧ g < w.heap.size := fun g hv => by
  rcases h.2 with ⟨rfl, h0⟩ | ⟨g', cap, cur, rfl, hbg, hg, hnc, hcm, hcs, htake⟩
  · simp [Value.ownBlock] at hv
  · have e : g' = g := by simpa [Value.ownBlock] using hv
    subst e
    refine ⟨hbg, ?_⟩
    rcases Nat.lt_or_ge g' w.heap.size with hlt | hge
    · exact hlt
    · rw [Array.getElem?_eq_none hge] at hg; cases hg
theorem OwnI.far {base : Nat} {w : World} {v : Value} {ss : List Int} (h : OwnI w base v ss) {p : Addr} (hp : v.ownBlock ≠ some p.block) (u : Value) : OwnI (w.setCell p u) base v ss := by
  rcases h with ⟨hl, h⟩
  refine ⟨hl, ?_⟩
  rcases h with h | ⟨g, cap, cur, rfl, hbg, hg, rest⟩
  · exact .inl h
  · refine .inr ⟨g, cap, cur, rfl, hbg, ?_, rest⟩
    rw [Below.heap_setCell w p u g (fun e => hp (by rw [← e]; rfl))]; exact hg
theorem OwnI.alloc {base : Nat} {w : World} {v : Value} {ss : List Int} (h : OwnI w base v ss) (o : Obj) : OwnI (w.alloc o) base v ss :=
  h.below (below1 w o) (fun g hg => (h.lt g hg).2)
theorem OwnI.emptyRow {w : World} {base g : Nat} (h : w.heap[g]? = some (.cells #[] 2 (0, 0))) (hb : base ≤ g) : OwnI w base (.slice (some ⟨g, 0, none⟩) 0 0) [] :=
  ⟨rfl, .inr ⟨g, 0, #[], rfl, hb, h, Nat.le_refl _, Nat.zero_le _, rfl, rfl⟩⟩
theorem OwnI.mono {w : World} {base base' : Nat} {v : Value} {ss : List Int} (h : OwnI w base v ss) (hb : base' ≤ base) : OwnI w base' v ss := by
  rcases h with ⟨hl, h | ⟨g, cap, cur, rfl, hbg, rest⟩⟩
  · exact ⟨hl, .inl h⟩
  · exact ⟨hl, .inr ⟨g, cap, cur, rfl, Nat.le_trans hb hbg, rest⟩⟩
theorem cellsI_oneCell (ss : List Int) : ∀ u ∈ cellsI ss, u.oneCell' = true := fun u hu => by
  unfold cellsI at hu
  obtain ⟨t, _, rfl⟩ := List.mem_map.1 hu
  rfl
theorem cellsI_append (xs ys : List Int) : cellsI (xs ++ ys) = cellsI xs ++ cellsI ys := by simp [cellsI]
theorem ints_news {w : World} {b off : Nat} {ss : List Int} (h : IntsIn w b off ss) : ∀ j u, (cellsI ss)[j]? = some u → w.cell? ((⟨b, off, none⟩ : Addr).add j) = some u := fun j u hu => by
  have hj : j < ss.length := by have := (List.getElem?_eq_some_iff.1 hu).1; simpa [cellsI] using this
  rw [add_at, h j hj]
  simp only [cellsI, List.getElem?_map, List.getElem?_eq_getElem hj, Option.map_some, Option.some.injEq] at hu
  rw [hu]

set_option maxRecDepth 100000 in
theorem run_append_ints (w : World) (ty : TypeId) (base : Nat) (v : Value) (n : Nat) (xs ys : List Int) (hn : n = xs.length) (hown : OwnI w base v xs) (A : Option Addr) (m c : Nat) (hm : m = ys.length)
    (hsrc : m = 0 ∨ ∃ b off, A = some ⟨b, off, none⟩ ∧ IntsIn w b off ys) (hbig : n + m ≤ 4194304) (hbase : base ≤ w.heap.size) :
    ∃ a' c' w', (Builtin.append_ #[29, 29] ty #[v, .slice A m c]).run Try.prog w = .ok (.slice a' (n + m) c') w' ∧ OwnI w' base (.slice a' (n + m) c') (xs ++ ys) ∧ w.grownBy w' v.ownBlock ∧
      ((Value.slice a' (n + m) c').ownBlock = v.ownBlock ∨ (Value.slice a' (n + m) c').ownBlock = some w.heap.size) := by
  obtain ⟨i0, hi0, hi1, hi2, hi3⟩ := info_parts info_int64
  subst hn hm
  have hform : ∀ (W : World) (u : Value) (zs : List Int), OwnI W base u zs → ∃ a' c', u = .slice a' zs.length c' := fun W u zs h => by
    obtain ⟨a', c', h1, _, _⟩ := h.newI
    exact ⟨a', c', h1⟩
  rcases A with _ | ad
  · have h0 : ys = [] := by
      rcases hsrc with h | ⟨b, off, h, _⟩
      · exact List.eq_nil_of_length_eq_zero h
      · cases h
    subst h0
    obtain ⟨a', c', rfl⟩ := hform _ _ _ hown
    refine ⟨a', c', w, ?_, by simpa using hown, World.grownBy.refl w _, .inl rfl⟩
    rcases hown.2 with ⟨h1, h2⟩ | ⟨g, cap, cur, h1, _, _, hnc, _⟩
    · injection h1 with e1 e2 e3
      subst e1 e3
      simp [Builtin.append_, run_underlying Try.underlying29, sizeOf, typeInfo, hi0, Builtin.lenOf, Builtin.firstCells, h2]
    · injection h1 with e1 e2 e3
      subst e1 e3
      simp [Builtin.append_, run_underlying Try.underlying29, sizeOf, typeInfo, hi0, Builtin.lenOf, Builtin.firstCells, hnc, storeCells]
  · have hnews : ∀ j u, (cellsI ys)[j]? = some u → w.cell? (ad.add j) = some u := fun j u hu => by
      rcases hsrc with h | ⟨b, off, h, ht⟩
      · have e : ys = [] := List.eq_nil_of_length_eq_zero h
        subst e
        simp [cellsI] at hu
      · cases h
        exact ints_news ht j u hu
    obtain ⟨v', w', hr, h2, h3, _, h5⟩ := run_append_own_at (P := Try.prog) w base 29 ty 2 i0 _ 1 8 Try.underlying29 hi0 hi1 hi2 hi3 rfl (by omega) v xs.length (cellsI xs) hown ad ys.length c (cellsI ys) (by simp [cellsI]) hnews (cellsI_oneCell ys) (by unfold maxLen; omega) (by omega) hbase
    have hO : OwnI w' base v' (xs ++ ys) := by
      unfold OwnI
      rw [List.length_append, cellsI_append]
      exact h2
    obtain ⟨a', c', rfl⟩ := hform _ _ _ hO
    rw [List.length_append] at hr hO h5
    exact ⟨a', c', w', hr, hO, h3, h5⟩

theorem wpList_append_ints {ops : Array Oper} {rest : List Oper} {o : Oper} {a : Act} {w : World} {Q : Exit → Act → World → Prop} (hgd : o.guard = none) (s x : Operand)
    (ho : o.op = .call { callee := .builtin .append, args := #[s, x], argTypes := #[29, 29] })
    (base : Nat) (v : Value) (n : Nat) (xs ys : List Int) (hs : a.eval s = v) (hn : n = xs.length) (hown : OwnI w base v xs) (A : Option Addr) (m c : Nat) (hx : a.eval x = .slice A m c) (hm : m = ys.length)
    (hsrc : m = 0 ∨ ∃ b off, A = some ⟨b, off, none⟩ ∧ IntsIn w b off ys) (hbig : n + m ≤ 4194304) (hbase : base ≤ w.heap.size)
    (h : ∀ a' c' w', OwnI w' base (.slice a' (n + m) c') (xs ++ ys) → w.grownBy w' v.ownBlock → ((Value.slice a' (n + m) c').ownBlock = v.ownBlock ∨ (Value.slice a' (n + m) c').ownBlock = some w.heap.size) → wpList Try.prog ops Q rest (a.put o.dst (.slice a' (n + m) c')) w') :
    wpList Try.prog ops Q (o :: rest) a w := by
  refine wpList_plain hgd fun K hK => ?_
  obtain ⟨a', c', w', hr, h2, h3, h4⟩ := run_append_ints w o.type base v n xs ys hn hown A m c hm hsrc hbig hbase
  unfold Oper.wp execOp
  simp only [ho, resolve, invoke, builtin, Sem.run_bind, Sem.run_pure, Result.andThen_ok, List.map_toArray, List.map_cons, List.map_nil, hs, hx, hr]
  exact hK _ _ (h a' c' w' h2 h3 h4)

theorem ints_one (w : World) (s : Int) : IntsIn (w.alloc (.cells #[.int .i64 s] 2)) w.heap.size 0 [s] := fun i hi => by
  have h0 : i = 0 := by simpa using hi
  subst h0
  simp [go_sem]
theorem OwnI.one (w : World) (s : Int) : OwnI (w.alloc (.cells #[.int .i64 s] 2)) w.heap.size (.slice (some ⟨w.heap.size, 0, none⟩) 1 1) [s] :=
  ⟨rfl, .inr ⟨w.heap.size, 1, #[.int .i64 s], rfl, Nat.le_refl _, heap_alloc_new w _, Nat.le_refl _, by unfold maxLen; omega, rfl, rfl⟩⟩
theorem own_grownI {B : Nat} {w w' : World} {v : Value} {ss : List Int} (hO : OwnI w B v ss) (hg : w.grownBy w' v.ownBlock) (hB : B ≤ w.heap.size) : Below B w w' := below_of_grown hg (fun g h => (hO.lt g h).1) hB
end Go.Proofs.Ytncodnjnndjjaaa

namespace Go.Proofs.Ytncodnjnndjjaaa
open Go.RowKit

/-- what a function that returns new numbers comes to -/
def IntsPost (zs : List Int) (W : World) (e : Ending) (w' : World) : Prop :=
  ∃ (a : Option Addr) (cap : Nat), e = .returned (.slice a zs.length cap) ∧ Below W.heap.size W w' ∧ NewI W.heap.size w'.heap.size w' a zs
theorem OwnI.at_ {w : World} {base : Nat} {a : Option Addr} {l c : Nat} {ss : List Int} (h : OwnI w base (.slice a l c) ss) : l = ss.length ∧ NewI base w.heap.size w a ss := by
  obtain ⟨a', c', he, hle, hN⟩ := h.newI
  injection he with e1 e2 e3
  subst e1 e3
  exact ⟨e2, hN⟩
theorem IRow.src {lo hi : Nat} {w : World} {a : Option Addr} {zs : List Int} (h : IRow lo hi w a zs) : zs.length = 0 ∨ ∃ b off, a = some ⟨b, off, none⟩ ∧ IntsIn w b off zs := by
  rcases h with h | ⟨b, off, e, _, _, q⟩
  · exact .inl (by simp [h])
  · exact .inr ⟨b, off, e, q⟩

set_option maxRecDepth 100000 in
set_option maxHeartbeats 1000000 in
theorem cloneI_c (lo hi : Nat) (ad : Addr) (cap : Nat) (zs : List Int) (hl : zs.length ≤ 4194304) (w : World) (hr : IRow lo hi w (some ad) zs) (hh : hi ≤ w.heap.size) :
    Calls Try.prog 77 #[.slice (some ad) zs.length cap] w (IntsPost zs w) := by
  have H := Lib.hid hr
  have hnil : ∀ W : World, (binOp .eql 29 (.slice (some ad) zs.length cap) (.slice none 0 0)).run Try.prog W = .ok (.bool false) W := fun W => run_eql_slice_nil W 29 2 (some ad) zs.length cap Try.underlying29
  clear hr
  go_enter Try.func77, Try.ntmps77
  go_wp2_with (at_builtin; refine wpList_append_ints rfl _ _ rfl w.heap.size (.slice (some ⟨w.heap.size, 0, none⟩) 0 0) 0 [] zs rfl rfl (OwnI.emptyRow (heap_alloc_new w _) (Nat.le_refl _)) (some ad) zs.length cap rfl rfl ?_ (by omega) (by simp) ?_)
  · exact ((H.out.below (below1 w _) hh).src)
  intro a9 q9 w9 hO9 hG9 _
  have HB9 := Lib.hid ((below1 w (.cells #[] 2)).trans (own_grownI (OwnI.emptyRow (heap_alloc_new w _) (Nat.le_refl _)) hG9 (by simp)))
  have HO9 := Lib.hid hO9
  clear hO9 hG9 hnil
  go_wp2
  go_ret
  exact ⟨a9, q9, rfl, HB9.out, HO9.out.at_.2⟩

def GrowIPost (W : World) (e : Ending) (w' : World) : Prop :=
  ∃ (a : Option Addr) (c : Nat), e = .returned (.slice a 0 c) ∧ OwnI w' W.heap.size (.slice a 0 c) [] ∧ Below W.heap.size W w'
set_option maxRecDepth 100000 in
set_option maxHeartbeats 2000000 in
theorem growI_c (n : Nat) (h0 : 0 < n) (hn : n ≤ 4194304) (w : World) :
    Calls Try.prog 89 #[.slice none 0 0, .int .i64 n] w (GrowIPost w) := by
  obtain ⟨i0, hi0, hi1, hi2, hi3⟩ := info_parts info_int64
  have h1 : ¬ ((n : Int) < 0) := by omega
  have h4 : (n : Int) > 0 := by omega
  have hold : (Builtin.firstCells i0.size 0 (.slice none 0 0)).run Try.prog w.drew = .ok (#[] : Array Value) w.drew := run_firstCells_none w.drew i0.size 0 0 0
  have hr : ∀ ty, (Builtin.append_ #[29, 3] ty #[.slice none 0 0, .int .i64 (n : Int)]).run Try.prog w =
      .ok (.slice (some ⟨w.heap.size, 0, none⟩) (0 + n) (grownCap w (0 + n) 0 2)) (w.drew.alloc (.cells (([] : List Value).toArray ++ Builtin.zeroCells (Value.int .i64 0).cells n ++ Builtin.zeroCells (Value.int .i64 0).cells (grownCap w (0 + n) 0 2 - (0 + n))) 2)) := fun ty =>
    Lib.run_append_grow_zeros w 29 3 ty 2 i0 _ .i64 .i64 Try.underlying29 Try.underlying3 hi0 hi1 none 0 0 [] hold n (by omega) (by rw [hi2]; omega) (by omega) (by omega) (by rw [hi3]; omega) (growslice_fits (by omega) (by rw [hi3]; omega))
  have hcap := grownCap_le_maxLen w (0 + n) 0 2 (by unfold maxLen; omega)
  have hge := grownCap_ge w (0 + n) 0 2
  rw [Nat.zero_add] at hr hcap hge
  generalize grownCap w n 0 2 = G at hr hcap hge
  have hO : ∀ cs : Array Value, cs.size = G → OwnI (w.alloc (.cells cs 2)) w.heap.size (.slice (some ⟨w.heap.size, 0, none⟩) 0 G) [] := fun cs hcs =>
    ⟨rfl, .inr ⟨w.heap.size, G, cs, rfl, Nat.le_refl _, heap_alloc_new w _, Nat.zero_le _, hcap, by rw [hcs, Nat.mul_one], by simp [cellsI]⟩⟩
  have HO := Lib.hid hO
  have hG : (0 : Int) ≤ (G : Int) := by omega
  unfold maxLen at hcap
  clear hold hO
  go_enter Try.func89, Try.ntmps89
  go_wp2_with (at_builtin; refine Lib.wpList_append_run _ rfl _ _ _ _ rfl _ _ rfl rfl _ _ (hr _) ?_)
  go_ret
  exact ⟨some ⟨w.heap.size, 0, none⟩, G, rfl, HO.out _ (by simp [Builtin.zeroCells]; omega), ⟨rfl, rfl, rfl, by simp, fun i hi => Below.heap_alloc w _ i hi⟩⟩

set_option maxRecDepth 100000 in
set_option maxHeartbeats 4000000 in
theorem concat2_c (x0 x1 : List Int) (a0 a1 : Option Addr) (n0 n1 k0 k1 lb : Nat) (w : World) (e0 : n0 = x0.length) (e1 : n1 = x1.length) (hlen : n0 + n1 ≤ 1048576) (hpos : 0 < n0 + n1) (hlb : lb < w.heap.size)
    (l0 : w.cell? ⟨lb, 0, none⟩ = some (.slice a0 n0 k0)) (l1 : w.cell? ⟨lb, 1, none⟩ = some (.slice a1 n1 k1))
    (r0 : IRow 0 w.heap.size w a0 x0) (r1 : IRow 0 w.heap.size w a1 x1) :
    Calls Try.prog 72 #[.slice (some ⟨lb, 0, none⟩) 2 2] w (IntsPost (x0 ++ x1) w) := by
  have E0 := Lib.hid e0
  have E1 := Lib.hid e1
  have R0 := Lib.hid r0
  have R1 := Lib.hid r1
  have C0 := Lib.hid ((Cs.nil w).cons hlb l1 |>.cons hlb l0)
  clear e0 e1 r0 r1
  go_enter Try.func72, Try.ntmps72
  go_wp2
  go_loop [3, 11] (fun vs vi => (vi = .int .i64 0 ∧ vs = .int .i64 0) ∨ (vi = .int .i64 1 ∧ vs = .int .i64 n0) ∨ (vi = .int .i64 2 ∧ vs = .int .i64 ((n0 : Int) + n1))) (fun _ vi => 2 - (intOf vi).toNat)
  case atStart => exact .inl ⟨rfl, rfl⟩
  case round =>
    rcases hrel with ⟨rfl, rfl⟩ | ⟨rfl, rfl⟩ | ⟨rfl, rfl⟩
    · go_wp2
      go_round
      case rel => exact .inr (.inl ⟨rfl, by first | rfl | simp⟩)
      case measure => simp [intOf]
    · go_wp2
      go_round
      case rel => exact .inr (.inr ⟨rfl, rfl⟩)
      case measure => simp [intOf]
    · have hcast : (n0 : Int) + n1 = ((n0 + n1 : Nat) : Int) := by omega
      rw [hcast]
      clear hcast l0 l1
      go_wp2_with fail
      refine (growI_c (n0 + n1) hpos (by omega) w).mono ?_
      rintro e w1 ⟨ag, cg, rfl, hO, hb1⟩
      have hz1 := hb1.size
      have HO := Lib.hid hO
      have HB := Lib.hid hb1
      clear hO hb1
      go_wp2
      go_loopw [6, 27] (fun vs vi wr => Below w.heap.size w wr ∧ ∃ (a : Option Addr) (l c : Nat) (zs : List Int), vs = .slice a l c ∧ l = zs.length ∧ OwnI wr w.heap.size (.slice a l c) zs ∧ ((vi = .int .i64 0 ∧ zs = []) ∨ (vi = .int .i64 1 ∧ zs = x0) ∨ (vi = .int .i64 2 ∧ zs = x0 ++ x1))) (fun _ vi _ => 2 - (intOf vi).toNat)
      case atStart => exact ⟨HB.out, ag, 0, cg, [], rfl, rfl, HO.out, .inl ⟨rfl, rfl⟩⟩
      case round =>
        obtain ⟨hB, av, lv, cv, zs, rfl, hlv, hOw, hi⟩ := hrel
        have HBr := Lib.hid hB
        have HLv := Lib.hid hlv
        have HOw := Lib.hid hOw
        have Cr := Lib.hid (C0.out.below hB (Nat.le_refl _))
        have hzr := hB.size
        clear hB hlv hOw
        rcases hi with ⟨rfl, hzs⟩ | ⟨rfl, hzs⟩ | ⟨rfl, hzs⟩
        · have HZ := Lib.hid hzs
          clear hzs
          have m0 := Cr.out.get 0 rfl
          go_wp2_with (at_builtin; refine wpList_append_ints rfl _ _ rfl w.heap.size (.slice av lv cv) lv zs x0 rfl HLv.out HOw.out a0 n0 k0 rfl E0.out ?_ (by have := HLv.out; rw [HZ.out] at this; simp at this; omega) hzr ?_)
          · have h := (R0.out.below HBr.out (Nat.le_refl _)).src
            rwa [← E0.out] at h
          intro a9 q9 w9 hO9 hG9 _
          have HB9 := Lib.hid (HBr.out.trans (own_grownI HOw.out hG9 hzr))
          have HO9 := Lib.hid hO9
          clear hO9 hG9 m0
          go_wp2
          go_roundw
          case rel => exact ⟨HB9.out, a9, lv + n0, q9, zs ++ x0, rfl, by rw [List.length_append, ← HLv.out, ← E0.out], HO9.out, .inr (.inl ⟨rfl, by rw [HZ.out]; rfl⟩)⟩
          case measure => simp [intOf]
        · have HZ := Lib.hid hzs
          clear hzs
          have m0 := Cr.out.get 1 rfl
          go_wp2_with (at_builtin; refine wpList_append_ints rfl _ _ rfl w.heap.size (.slice av lv cv) lv zs x1 rfl HLv.out HOw.out a1 n1 k1 rfl E1.out ?_ (by have := HLv.out; rw [HZ.out] at this; have := E0.out; omega) hzr ?_)
          · have h := (R1.out.below HBr.out (Nat.le_refl _)).src
            rwa [← E1.out] at h
          intro a9 q9 w9 hO9 hG9 _
          have HB9 := Lib.hid (HBr.out.trans (own_grownI HOw.out hG9 hzr))
          have HO9 := Lib.hid hO9
          clear hO9 hG9 m0
          go_wp2
          go_roundw
          case rel => exact ⟨HB9.out, a9, lv + n1, q9, zs ++ x1, rfl, by rw [List.length_append, ← HLv.out, ← E1.out], HO9.out, .inr (.inr ⟨rfl, by rw [HZ.out]⟩)⟩
          case measure => simp [intOf]
        · have HZ := Lib.hid hzs
          clear hzs
          go_wp2
          go_ret
          have hO := HOw.out
          rw [HZ.out] at hO
          have hlv := HLv.out
          rw [HZ.out] at hlv
          subst hlv
          exact ⟨av, cv, rfl, HBr.out, hO.at_.2⟩
/-- what a function that returns numbers and a code comes to -/
def NumsPost (zs : List Int) (c : Int) (W : World) (e : Ending) (w' : World) : Prop :=
  ∃ (a : Option Addr) (cap : Nat), e = .returned (.tuple #[.slice a zs.length cap, .int .i64 c]) ∧ Below W.heap.size W w' ∧ NewI W.heap.size w'.heap.size w' a zs
theorem toInt64S_new (lo hi : Nat) (a : Option Addr) (cap : Nat) (zs : List Int) (hl : zs.length ≤ 1048576) (w : World) (hr : IRow lo hi w a zs) (hh : hi ≤ w.heap.size) :
    Calls Try.prog 18 #[.slice a zs.length cap] w fun e w' => ∃ a', e = .returned (.slice a' zs.length zs.length) ∧ Below w.heap.size w w' ∧ NewI w.heap.size w'.heap.size w' a' zs :=
  (toInt64S_c lo hi a cap zs hl w hr hh).mono fun _ _ ⟨g, he, hb, h1, h2, h3⟩ => ⟨some ⟨g, 0, none⟩, he, hb, .inr ⟨g, rfl, h1, h2.1, h2, h3⟩⟩
theorem IntsIn.upd {w : World} {g : Nat} {zs : List Int} {j : Nat} (h : IntsIn w g 0 zs) (hm : Made w g zs.length) (hj : j < zs.length) (z : Int) : IntsIn (w.setCell ⟨g, j, none⟩ (.int .i64 z)) g 0 (zs.set j z) := by
  intro i hi
  rw [List.length_set] at hi
  rw [List.getElem_set]
  simp only [Nat.zero_add]
  by_cases e : j = i
  · subst e
    rw [if_pos rfl]
    obtain ⟨⟨v0, m0⟩, -⟩ := hm.2 j hj
    exact World.cell?_setCell_same _ _ _ m0
  · rw [if_neg e, World.cell?_setCell_other _ _ _ _ (fun e2 => by injection e2 with _ e3; omega)]
    have := h i hi
    rwa [Nat.zero_add] at this
end Go.Proofs.Ytncodnjnndjjaaa
