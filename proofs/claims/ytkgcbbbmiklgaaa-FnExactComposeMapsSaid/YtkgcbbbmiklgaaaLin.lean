/-
  Linear maps (arrays of three moves by value): made of rows, transposed; rows of numbers made of moves.
-/
import Derived.Test.YtkgcbbbmiklgaaaPathRes
import Derived.Test.YtkgcbbbmiklgaaaIsMap
import Derived.Laws.IdiomCopy
namespace Go.Proofs.Ytkgcbbbmiklgaaa
open Go.RowKit

/-- the value of a linear map: three rows -/
def linV (f : Nat → Mv) : Value := .agg #[.int .i64 (f 0).a, .int .i64 (f 0).b, .int .i64 (f 0).c, .int .i64 (f 1).a, .int .i64 (f 1).b, .int .i64 (f 1).c, .int .i64 (f 2).a, .int .i64 (f 2).b, .int .i64 (f 2).c]
def linOf (ps : List (List Int)) (i : Nat) : Mv := mvOf (ps.getD i [])

theorem run_copy_three (w : World) (ty : TypeId) (g c k : Nat) (a : Addr) (ms : List Mv) (hl : ms.length ≤ 3) (b off : Nat) (ha : a = ⟨b, off, none⟩) (hsrc : MvsIn w b off ms) (hc : ∀ j, j < 9 → (w.cell? ⟨g, j, none⟩).isSome = true) (hf : ∀ j, j < 9 → w.frozen? ⟨g, j, none⟩ = false) :
    (Builtin.copy_ #[57, 57] ty #[.slice (some ⟨g, 0, none⟩) 3 c, .slice (some a) ms.length k]).run Try.prog w = .ok (goInt ms.length) (w.setCells g 0 (cellsM ms)) := by
  obtain ⟨i0, hi0, hi1, hi2, hi3⟩ := info_parts info_move
  subst ha
  have hlen := cellsM_length ms
  have hl2 := run_loadCells_list (P := Try.prog) w ⟨b, off, none⟩ (cellsM ms) (mvs_news hsrc)
  have hst := run_storeCells_cells (P := Try.prog) g 0 (cellsM ms) 0 w (fun j hj => by simpa using hc j (by omega)) (fun j hj => by simpa using hf j (by omega)) (cellsM_oneCell ms)
  have hmin : min ms.length 3 = ms.length := Nat.min_eq_left hl
  rw [hlen] at hl2
  simp [Builtin.copy_, run_underlying Try.underlying57, Builtin.lenOf, Builtin.firstCells, sizeOf, typeInfo, hi0, hi2, hmin, hl2, hst]
set_option maxRecDepth 100000 in
theorem run_copy_own (w : World) (ty : TypeId) (g c B : Nat) (a : Option Addr) (k : Nat) (ms : List Mv) (hl : ms.length ≤ 3) (hO : OwnM w B (.slice a ms.length k) ms) (hc : ∀ j, j < 9 → (w.cell? ⟨g, j, none⟩).isSome = true) (hf : ∀ j, j < 9 → w.frozen? ⟨g, j, none⟩ = false) :
    (Builtin.copy_ #[57, 57] ty #[.slice (some ⟨g, 0, none⟩) 3 c, .slice a ms.length k]).run Try.prog w = .ok (goInt ms.length) (w.setCells g 0 (cellsM ms)) := by
  obtain ⟨i0, hi0, hi1, hi2, hi3⟩ := info_parts info_move
  have hat := hO.at_.2
  rcases hO.2 with ⟨h1, h0⟩ | ⟨g', cap', cur, h1, _⟩
  · have e : ms = [] := List.eq_nil_of_length_eq_zero h0
    subst e
    injection h1 with e1 e2 e3
    subst e1 e3
    exact run_copy_nil Try.prog w _ _ ty 51 ⟨g, 0, none⟩ 3 c Try.underlying57 (by rw [hi0]; rfl)
  · injection h1 with e1 e2 e3
    subst e1
    refine run_copy_three w ty g c k ⟨g', 0, none⟩ ms hl g' 0 rfl ?_ hc hf
    rcases hat with h | ⟨b, e, _, _, _, h⟩
    · rw [h]; exact fun i hi => absurd hi (Nat.not_lt_zero _)
    · injection e with e
      injection e with e _ _
      subst e
      exact h
theorem below_setCells {B : Nat} (g : Nat) (hg : B ≤ g) : ∀ (vs : List Value) (o : Nat) {w u : World}, Below B w u → Below B w (u.setCells g o vs)
  | [], _, _, _, h => h
  | v :: r, o, _, _, h => below_setCells g hg r (o + 1) (h.setCell (p := ⟨g, o, none⟩) hg v)

theorem nine_zero (w : World) (t : TypeId) (n : Nat) (hn : n = w.heap.size ∨ n = w.heap.size + 1) (j : Nat) (hj : j < 9) :
    ((w.alloc (.cells #[.int .i64 0, .int .i64 0, .int .i64 0, .int .i64 0, .int .i64 0, .int .i64 0, .int .i64 0, .int .i64 0, .int .i64 0] t)).alloc (.cells #[.int .i64 0, .int .i64 0, .int .i64 0, .int .i64 0, .int .i64 0, .int .i64 0, .int .i64 0, .int .i64 0, .int .i64 0] t)).cell? ⟨n, j, none⟩ = some (.int .i64 0) ∧
    ((w.alloc (.cells #[.int .i64 0, .int .i64 0, .int .i64 0, .int .i64 0, .int .i64 0, .int .i64 0, .int .i64 0, .int .i64 0, .int .i64 0] t)).alloc (.cells #[.int .i64 0, .int .i64 0, .int .i64 0, .int .i64 0, .int .i64 0, .int .i64 0, .int .i64 0, .int .i64 0, .int .i64 0] t)).frozen? ⟨n, j, none⟩ = false := by
  have h9 : j = 0 ∨ j = 1 ∨ j = 2 ∨ j = 3 ∨ j = 4 ∨ j = 5 ∨ j = 6 ∨ j = 7 ∨ j = 8 := by omega
  rcases hn with rfl | rfl <;> rcases h9 with rfl | rfl | rfl | rfl | rfl | rfl | rfl | rfl | rfl <;> exact ⟨by go_simp, by go_simp⟩

/-- nine numbers of a linear map in a block of their own -/
def Nine (w : World) (g : Nat) (f : Nat → Mv) : Prop := ∀ i, i < 3 → w.cell? ⟨g, i * 3, none⟩ = some (.int .i64 (f i).a) ∧ w.cell? ⟨g, i * 3 + 1, none⟩ = some (.int .i64 (f i).b) ∧ w.cell? ⟨g, i * 3 + 2, none⟩ = some (.int .i64 (f i).c)
theorem nine_copied (w : World) (g : Nat) (ps : List (List Int)) (hl : ps.length ≤ 3) (hz : ∀ j, j < 9 → w.cell? ⟨g, j, none⟩ = some (.int .i64 0)) : Nine (w.setCells g 0 (cellsM (ps.map mvOf))) g (linOf ps) := fun i hi => by
  have hlen := cellsM_length (ps.map mvOf)
  rw [List.length_map] at hlen
  by_cases hlt : i < ps.length
  · have hlt' : i < (ps.map mvOf).length := by rw [List.length_map]; exact hlt
    have hg := cellsM_get (ps.map mvOf) i hlt'
    have e : (ps.map mvOf)[i] = linOf ps i := by rw [List.getElem_map, linOf, getD_of hlt]
    rw [e] at hg
    have key : ∀ j v, (cellsM (ps.map mvOf))[j]? = some v → (w.setCells g 0 (cellsM (ps.map mvOf))).cell? ⟨g, j, none⟩ = some v := fun j v h => by
      obtain ⟨hj, rfl⟩ := List.getElem?_eq_some_iff.1 h
      have := World.cell?_setCells_in g (cellsM (ps.map mvOf)) 0 w (fun j hj => by rw [Nat.zero_add, hz j (by omega)]; rfl) j hj
      rwa [Nat.zero_add] at this
    exact ⟨key _ _ hg.1, key _ _ hg.2.1, key _ _ hg.2.2⟩
  · have e : linOf ps i = ⟨0, 0, 0⟩ := by
      unfold linOf
      rw [List.getD_eq_getElem?_getD, List.getElem?_eq_none (by omega)]; rfl
    have key : ∀ j, i * 3 ≤ j → j < 9 → (w.setCells g 0 (cellsM (ps.map mvOf))).cell? ⟨g, j, none⟩ = some (.int .i64 0) := fun j h1 h2 => by
      rw [World.cell?_setCells_out g _ 0 w _ (fun _ _ => .inr (by simp only; omega))]
      exact hz j h2
    rw [e]
    exact ⟨key _ (by omega) (by omega), key _ (by omega) (by omega), key _ (by omega) (by omega)⟩

set_option maxRecDepth 100000 in
set_option maxHeartbeats 2000000 in
theorem linearOf_c (lo hi : Nat) (a : Option Addr) (cap : Nat) (ps : List (List Int)) (hl : ps.length ≤ 3) (hs : ∀ i (h : i < ps.length), (ps[i]).length ≤ 3) (w : World) (hr : PRow lo hi w a ps) (hh : hi ≤ w.heap.size) :
    Calls Try.prog 46 #[.slice a ps.length cap] w fun e w' => e = .returned (linV (linOf ps)) ∧ Below w.heap.size w w' := by
  have HT := Lib.hid hr
  have HS := Lib.hid hs
  clear hr hs
  unfold linV
  obtain ⟨f0, f1, f2, f3, f4, f5, f6, f7, f8, e0, e1, e2⟩ : ∃ f0 f1 f2 f3 f4 f5 f6 f7 f8, linOf ps 0 = ⟨f0, f1, f2⟩ ∧ linOf ps 1 = ⟨f3, f4, f5⟩ ∧ linOf ps 2 = ⟨f6, f7, f8⟩ := ⟨_, _, _, _, _, _, _, _, _, rfl, rfl, rfl⟩
  rw [e0, e1, e2]
  have E0 := Lib.hid e0
  have E1 := Lib.hid e1
  have E2 := Lib.hid e2
  clear e0 e1 e2
  go_enter Try.func46, Try.ntmps46
  go_upto_region 2 with fail
  have HB0 := Lib.hid (below2 w (.cells #[.int .i64 0, .int .i64 0, .int .i64 0, .int .i64 0, .int .i64 0, .int .i64 0, .int .i64 0, .int .i64 0, .int .i64 0] 53) (.cells #[.int .i64 0, .int .i64 0, .int .i64 0, .int .i64 0, .int .i64 0, .int .i64 0, .int .i64 0, .int .i64 0, .int .i64 0] 53))
  have HZ := Lib.hid (fun (n : Nat) (hn : n = w.heap.size ∨ n = w.heap.size + 1) (j : Nat) (hj : j < 9) => nine_zero w 53 n hn j hj)
  have HS0 := Lib.hid (show ((w.alloc (.cells #[.int .i64 0, .int .i64 0, .int .i64 0, .int .i64 0, .int .i64 0, .int .i64 0, .int .i64 0, .int .i64 0, .int .i64 0] 53)).alloc (.cells #[.int .i64 0, .int .i64 0, .int .i64 0, .int .i64 0, .int .i64 0, .int .i64 0, .int .i64 0, .int .i64 0, .int .i64 0] 53)).heap.size = w.heap.size + 1 + 1 from by simp)
  generalize ((w.alloc (.cells #[.int .i64 0, .int .i64 0, .int .i64 0, .int .i64 0, .int .i64 0, .int .i64 0, .int .i64 0, .int .i64 0, .int .i64 0] 53)).alloc (.cells #[.int .i64 0, .int .i64 0, .int .i64 0, .int .i64 0, .int .i64 0, .int .i64 0, .int .i64 0, .int .i64 0, .int .i64 0] 53)) = wz at *
  go_cut [7] (fun _ wc => ∃ w1 : World, Below wz.heap.size wz w1 ∧ wc = w1.setCells (w.heap.size + 1) 0 (cellsM (ps.map mvOf)))
  case first =>
    go_region_with (go_at_call 52; refine (movesOf_c lo hi a cap ps (by omega) HS.out wz.drew (HT.out.below (B := w.heap.size) HB0.out.drew hh) (by have := HS0.out; show hi ≤ wz.heap.size; omega)).mono ?_; rintro e w1 ⟨a1, c1, rfl, hb1, hO1⟩; have HB1 : Hid (Below wz.heap.size wz w1) := Lib.hid ⟨hb1.os, hb1.tape, hb1.output, hb1.size, hb1.block⟩; have hcp := fun ty => run_copy_own w1 ty (w.heap.size + 1) 3 _ a1 c1 (ps.map mvOf) (by rw [List.length_map]; exact hl) hO1 (fun j hj => by rw [HB1.out.cell (p := ⟨w.heap.size + 1, j, none⟩) (by have := HS0.out; show w.heap.size + 1 < _; omega), (HZ.out _ (.inr rfl) j hj).1]; rfl) (fun j hj => by rw [HB1.out.frozen (p := ⟨w.heap.size + 1, j, none⟩) (by have := HS0.out; show w.heap.size + 1 < _; omega)]; exact (HZ.out _ (.inr rfl) j hj).2); simp only [List.length_map] at hcp; clear hb1 hO1)
    all_goals (go_wp2_with fail; go_meet)
    all_goals exact ⟨w1, HB1.out, rfl⟩
  case rest =>
    obtain ⟨w1, hb1, rfl⟩ := hcut
    have hsz := HS0.out
    have HB1 := Lib.hid hb1
    have hc0 : ∀ n, n = w.heap.size ∨ n = w.heap.size + 1 → ∀ j, j < 9 → w1.cell? ⟨n, j, none⟩ = some (.int .i64 0) ∧ w1.frozen? ⟨n, j, none⟩ = false := fun n hn j hj =>
      ⟨(hb1.cell (p := ⟨n, j, none⟩) (by show n < wz.heap.size; omega)).trans (HZ.out n hn j hj).1, (hb1.frozen (p := ⟨n, j, none⟩) (by show n < wz.heap.size; omega)).trans (HZ.out n hn j hj).2⟩
    have HN := Lib.hid (nine_copied w1 (w.heap.size + 1) ps hl (fun j hj => (hc0 _ (.inr rfl) j hj).1))
    have HR := Lib.hid (fun (j : Nat) (hj : j < 9) => show (w1.setCells (w.heap.size + 1) 0 (cellsM (ps.map mvOf))).cell? ⟨w.heap.size, j, none⟩ = some (.int .i64 0) from by
      rw [World.cell?_setCells_out (w.heap.size + 1) _ 0 w1 _ (fun h _ => absurd h (by show w.heap.size ≠ w.heap.size + 1; omega))]; exact (hc0 _ (.inl rfl) j hj).1)
    have HF := Lib.hid (fun (j : Nat) (hj : j < 9) => show (w1.setCells (w.heap.size + 1) 0 (cellsM (ps.map mvOf))).frozen? ⟨w.heap.size, j, none⟩ = false from by
      rw [World.frozen?_setCells]; exact (hc0 _ (.inl rfl) j hj).2)
    have HW := Lib.hid (below_setCells (w.heap.size + 1) (Nat.le_succ _) (cellsM (ps.map mvOf)) 0 (HB0.out.trans (hb1.mono (by omega))))
    have m0 : (w1.setCells (w.heap.size + 1) 0 (cellsM (ps.map mvOf))).cell? ⟨w.heap.size + 1, 0, none⟩ = some (.int .i64 (linOf ps 0).a) := (HN.out 0 (by omega)).1
    have m1 : (w1.setCells (w.heap.size + 1) 0 (cellsM (ps.map mvOf))).cell? ⟨w.heap.size + 1, 1, none⟩ = some (.int .i64 (linOf ps 0).b) := (HN.out 0 (by omega)).2.1
    have m2 : (w1.setCells (w.heap.size + 1) 0 (cellsM (ps.map mvOf))).cell? ⟨w.heap.size + 1, 2, none⟩ = some (.int .i64 (linOf ps 0).c) := (HN.out 0 (by omega)).2.2
    have m3 : (w1.setCells (w.heap.size + 1) 0 (cellsM (ps.map mvOf))).cell? ⟨w.heap.size + 1, 3, none⟩ = some (.int .i64 (linOf ps 1).a) := (HN.out 1 (by omega)).1
    have m4 : (w1.setCells (w.heap.size + 1) 0 (cellsM (ps.map mvOf))).cell? ⟨w.heap.size + 1, 4, none⟩ = some (.int .i64 (linOf ps 1).b) := (HN.out 1 (by omega)).2.1
    have m5 : (w1.setCells (w.heap.size + 1) 0 (cellsM (ps.map mvOf))).cell? ⟨w.heap.size + 1, 5, none⟩ = some (.int .i64 (linOf ps 1).c) := (HN.out 1 (by omega)).2.2
    have m6 : (w1.setCells (w.heap.size + 1) 0 (cellsM (ps.map mvOf))).cell? ⟨w.heap.size + 1, 6, none⟩ = some (.int .i64 (linOf ps 2).a) := (HN.out 2 (by omega)).1
    have m7 : (w1.setCells (w.heap.size + 1) 0 (cellsM (ps.map mvOf))).cell? ⟨w.heap.size + 1, 7, none⟩ = some (.int .i64 (linOf ps 2).b) := (HN.out 2 (by omega)).2.1
    have m8 : (w1.setCells (w.heap.size + 1) 0 (cellsM (ps.map mvOf))).cell? ⟨w.heap.size + 1, 8, none⟩ = some (.int .i64 (linOf ps 2).c) := (HN.out 2 (by omega)).2.2
    have r0 : (w1.setCells (w.heap.size + 1) 0 (cellsM (ps.map mvOf))).cell? ⟨w.heap.size, 0, none⟩ = some (.int .i64 0) := HR.out 0 (by omega)
    have z0 : (w1.setCells (w.heap.size + 1) 0 (cellsM (ps.map mvOf))).frozen? ⟨w.heap.size, 0, none⟩ = false := HF.out 0 (by omega)
    have r1 : (w1.setCells (w.heap.size + 1) 0 (cellsM (ps.map mvOf))).cell? ⟨w.heap.size, 1, none⟩ = some (.int .i64 0) := HR.out 1 (by omega)
    have z1 : (w1.setCells (w.heap.size + 1) 0 (cellsM (ps.map mvOf))).frozen? ⟨w.heap.size, 1, none⟩ = false := HF.out 1 (by omega)
    have r2 : (w1.setCells (w.heap.size + 1) 0 (cellsM (ps.map mvOf))).cell? ⟨w.heap.size, 2, none⟩ = some (.int .i64 0) := HR.out 2 (by omega)
    have z2 : (w1.setCells (w.heap.size + 1) 0 (cellsM (ps.map mvOf))).frozen? ⟨w.heap.size, 2, none⟩ = false := HF.out 2 (by omega)
    have r3 : (w1.setCells (w.heap.size + 1) 0 (cellsM (ps.map mvOf))).cell? ⟨w.heap.size, 3, none⟩ = some (.int .i64 0) := HR.out 3 (by omega)
    have z3 : (w1.setCells (w.heap.size + 1) 0 (cellsM (ps.map mvOf))).frozen? ⟨w.heap.size, 3, none⟩ = false := HF.out 3 (by omega)
    have r4 : (w1.setCells (w.heap.size + 1) 0 (cellsM (ps.map mvOf))).cell? ⟨w.heap.size, 4, none⟩ = some (.int .i64 0) := HR.out 4 (by omega)
    have z4 : (w1.setCells (w.heap.size + 1) 0 (cellsM (ps.map mvOf))).frozen? ⟨w.heap.size, 4, none⟩ = false := HF.out 4 (by omega)
    have r5 : (w1.setCells (w.heap.size + 1) 0 (cellsM (ps.map mvOf))).cell? ⟨w.heap.size, 5, none⟩ = some (.int .i64 0) := HR.out 5 (by omega)
    have z5 : (w1.setCells (w.heap.size + 1) 0 (cellsM (ps.map mvOf))).frozen? ⟨w.heap.size, 5, none⟩ = false := HF.out 5 (by omega)
    have r6 : (w1.setCells (w.heap.size + 1) 0 (cellsM (ps.map mvOf))).cell? ⟨w.heap.size, 6, none⟩ = some (.int .i64 0) := HR.out 6 (by omega)
    have z6 : (w1.setCells (w.heap.size + 1) 0 (cellsM (ps.map mvOf))).frozen? ⟨w.heap.size, 6, none⟩ = false := HF.out 6 (by omega)
    have r7 : (w1.setCells (w.heap.size + 1) 0 (cellsM (ps.map mvOf))).cell? ⟨w.heap.size, 7, none⟩ = some (.int .i64 0) := HR.out 7 (by omega)
    have z7 : (w1.setCells (w.heap.size + 1) 0 (cellsM (ps.map mvOf))).frozen? ⟨w.heap.size, 7, none⟩ = false := HF.out 7 (by omega)
    have r8 : (w1.setCells (w.heap.size + 1) 0 (cellsM (ps.map mvOf))).cell? ⟨w.heap.size, 8, none⟩ = some (.int .i64 0) := HR.out 8 (by omega)
    have z8 : (w1.setCells (w.heap.size + 1) 0 (cellsM (ps.map mvOf))).frozen? ⟨w.heap.size, 8, none⟩ = false := HF.out 8 (by omega)
    clear hc0 hb1
    rw [E0.out] at m0 m1 m2
    rw [E1.out] at m3 m4 m5
    rw [E2.out] at m6 m7 m8
    simp only at m0 m1 m2 m3 m4 m5 m6 m7 m8
    generalize w1.setCells (w.heap.size + 1) 0 (cellsM (ps.map mvOf)) = w2 at *
    have hW := HW.out
    clear HN HR HF HB1
    go_wp2
    refine bodyPost_ret (v := .agg #[.int .i64 f0, .int .i64 f1, .int .i64 f2, .int .i64 f3, .int .i64 f4, .int .i64 f5, .int .i64 f6, .int .i64 f7, .int .i64 f8]) (by simp [results, Try.results46, go_sem, r0, r1, r2, r3, r4, r5, r6, r7, r8]) rfl ⟨rfl, by go_grown⟩
theorem lin_at0 (x0 x1 x2 x3 x4 x5 x6 x7 x8 : Value) : ∀ w : World, (Instr.index 53 (.agg #[x0, x1, x2, x3, x4, x5, x6, x7, x8]) (.int .i64 0)).run Try.prog w = .ok (.agg #[x0, x1, x2]) w := fun _ => by kernel_rfl
theorem lin_at1 (x0 x1 x2 x3 x4 x5 x6 x7 x8 : Value) : ∀ w : World, (Instr.index 53 (.agg #[x0, x1, x2, x3, x4, x5, x6, x7, x8]) (.int .i64 1)).run Try.prog w = .ok (.agg #[x3, x4, x5]) w := fun _ => by kernel_rfl
theorem lin_at2 (x0 x1 x2 x3 x4 x5 x6 x7 x8 : Value) : ∀ w : World, (Instr.index 53 (.agg #[x0, x1, x2, x3, x4, x5, x6, x7, x8]) (.int .i64 2)).run Try.prog w = .ok (.agg #[x6, x7, x8]) w := fun _ => by kernel_rfl
end Go.Proofs.Ytkgcbbbmiklgaaa
