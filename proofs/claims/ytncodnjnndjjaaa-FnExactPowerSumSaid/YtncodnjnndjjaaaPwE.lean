/-
  Power sums: contracts of PowerSum, of the program.
-/
import Derived.Test.YtncodnjnndjjaaaPwD
import Derived.Test.YtncodnjnndjjaaaRept
namespace Go.Proofs.Ytncodnjnndjjaaa
open Go.RowKit Go.Shelf

attribute [local go_sem] Oper.semAt_some

/-- all places of a list, from the last one on -/
abbrev bwA (z : List Int) : List (Plc z) := bwd z z.length (Nat.le_refl _)
def psG (z : List Int) {q : List Int} (o : Option (List Int)) (pre : List (Plc q)) : Option (List Int) := pre.foldl (fun o x => o.bind fun F => swL z x.1.2.toNat F (bwA z)) o
def psL (z : List Int) {q : List Int} (pre : List (Plc q)) : Option (List Int) := psG z (some (List.replicate (z.length + 1) 1)) pre
theorem psL_snoc {z q : List Int} (pre : List (Plc q)) (x : Plc q) : psL z (pre ++ [x]) = (psL z pre).bind fun F => swL z x.1.2.toNat F (bwA z) := by
  unfold psL psG
  rw [List.foldl_append]
  rfl
theorem psG_none {z q : List Int} : ∀ (t : List (Plc q)), psG z none t = none
  | [] => rfl
  | _ :: t => psG_none t
theorem psL_app {z q : List Int} {pre t : List (Plc q)} (h : psL z pre = none) : psL z (pre ++ t) = none := by
  have e : psL z (pre ++ t) = psG z (psL z pre) t := by unfold psL psG; rw [List.foldl_append]
  rw [e, h, psG_none]
theorem psL_stop {z q : List Int} {k : Nat} (hk : k ≤ q.length) (h : psL z (bwd q k hk) = none) : psL z (bwA q) = none := by
  obtain ⟨d, hd⟩ : ∃ d, k + d = q.length := ⟨q.length - k, by omega⟩
  obtain ⟨t, ht⟩ := bwd_pre q hk d (by omega)
  show psL z (bwd q q.length (Nat.le_refl _)) = none
  rw [← bwd_congr hd (by omega) (Nat.le_refl _), ht]
  exact psL_app h
theorem psG_good {z q : List Int} : ∀ (t : List (Plc q)) {o : Option (List Int)}, (∀ F, o = some F → goodS z.length F) → ∀ F, psG z o t = some F → goodS z.length F
  | [], _, h, F, e => h F e
  | x :: t, o, _, F, e => psG_good t (o := o.bind fun F => swL z x.1.2.toNat F (bwA z)) (fun F' h' => by
      obtain ⟨F0, _, h1⟩ := Option.bind_eq_some_iff.1 h'
      exact swL_good h1) F e
theorem psL_good {z q : List Int} {pre : List (Plc q)} {F : List Int} (h : psL z pre = some F) : goodS z.length F :=
  psG_good pre (fun F' e => by injection e with e; subst e; exact good_0 _ (by decide)) F h

/-- what stands between two rounds -/
structure PwI (z : List Int) (a : Option Addr) (cap B q : Nat) (F : List Int) (W : World) : Prop where
  sz : q + 3 ≤ W.heap.size
  bq : B + 3 ≤ q
  l0 : W.cell? ⟨B, 0, none⟩ = some (.slice a z.length cap)
  r0 : W.cell? ⟨B + 1, 0, none⟩ = some (.int .i64 0)
  r1 : W.cell? ⟨B + 1 + 1, 0, none⟩ = some (.int .i64 0)
  c0 : W.cell? ⟨q + 1, 0, none⟩ = some (.int .i64 0)
  f0 : ∃ g, W.cell? ⟨q, 0, none⟩ = some (.slice (some ⟨g, 0, none⟩) (z.length + 1) (z.length + 1)) ∧ g < W.heap.size ∧ g ≠ q ∧ g ≠ q + 1 ∧ IntsIn W g 0 F
  zr0 : W.frozen? ⟨B + 1, 0, none⟩ = false
  zr1 : W.frozen? ⟨B + 1 + 1, 0, none⟩ = false
  zc0 : W.frozen? ⟨q + 1, 0, none⟩ = false
  zf0 : W.frozen? ⟨q, 0, none⟩ = false
section
variable {z F : List Int} {a : Option Addr} {cap B q : Nat} {W W' : World}
theorem PwI.kept {row : Option Nat} (h : PwI z a cap B q F W) (hg : W.grownBy W' row) (hrow : ∀ r, row = some r → ∃ o : Obj, W.heap[r]? = some o ∧ o.isCells = false) : PwI z a cap B q F W' where
  sz := Nat.le_trans h.sz hg.size
  bq := h.bq
  l0 := cell_kept h.l0 hg hrow
  r0 := cell_kept h.r0 hg hrow
  r1 := cell_kept h.r1 hg hrow
  c0 := cell_kept h.c0 hg hrow
  f0 := by
    obtain ⟨g, h1, h2, h3, h4, h5⟩ := h.f0
    exact ⟨g, cell_kept h1 hg hrow, Nat.lt_of_lt_of_le h2 hg.size, h3, h4, fun i hi => cell_kept (h5 i hi) hg hrow⟩
  zr0 := (frozen_kept h.r0 hg hrow).trans h.zr0
  zr1 := (frozen_kept h.r1 hg hrow).trans h.zr1
  zc0 := (frozen_kept h.c0 hg hrow).trans h.zc0
  zf0 := by
    obtain ⟨g, h1, _⟩ := h.f0
    exact (frozen_kept h1 hg hrow).trans h.zf0
theorem PwI.below (h : PwI z a cap B q F W) (hb : Below W.heap.size W W') : PwI z a cap B q F W' where
  sz := Nat.le_trans h.sz hb.size
  bq := h.bq
  l0 := (hb.cell (p := ⟨B, 0, none⟩) (by show B < _; have := h.sz; have := h.bq; omega)).trans h.l0
  r0 := (hb.cell (p := ⟨B + 1, 0, none⟩) (by show B + 1 < _; have := h.sz; have := h.bq; omega)).trans h.r0
  r1 := (hb.cell (p := ⟨B + 1 + 1, 0, none⟩) (by show B + 1 + 1 < _; have := h.sz; have := h.bq; omega)).trans h.r1
  c0 := (hb.cell (p := ⟨q + 1, 0, none⟩) (by show q + 1 < _; have := h.sz; omega)).trans h.c0
  f0 := by
    obtain ⟨g, h1, h2, h3, h4, h5⟩ := h.f0
    exact ⟨g, (hb.cell (p := ⟨q, 0, none⟩) (by show q < _; have := h.sz; omega)).trans h1, Nat.lt_of_lt_of_le h2 hb.size, h3, h4, h5.below hb h2⟩
  zr0 := (hb.frozen (p := ⟨B + 1, 0, none⟩) (by show B + 1 < _; have := h.sz; have := h.bq; omega)).trans h.zr0
  zr1 := (hb.frozen (p := ⟨B + 1 + 1, 0, none⟩) (by show B + 1 + 1 < _; have := h.sz; have := h.bq; omega)).trans h.zr1
  zc0 := (hb.frozen (p := ⟨q + 1, 0, none⟩) (by show q + 1 < _; have := h.sz; omega)).trans h.zc0
  zf0 := (hb.frozen (p := ⟨q, 0, none⟩) (by show q < _; have := h.sz; omega)).trans h.zf0
theorem PwI.put (h : PwI z a cap B q F W) {F' : List Int} {g : Nat} (hg : g < W.heap.size) (h1 : g ≠ q) (h2 : g ≠ q + 1) (hF : IntsIn W g 0 F') :
    PwI z a cap B q F' ((W.setCell ⟨q, 0, none⟩ (.slice (some ⟨g, 0, none⟩) (z.length + 1) (z.length + 1))).setCell ⟨q + 1, 0, none⟩ (.int .i64 0)) where
  sz := by simp only [World.size_setCell]; exact h.sz
  bq := h.bq
  l0 := by rw [World.cell?_setCell_far _ _ _ _ (by show q + 1 ≠ B; have := h.bq; omega), World.cell?_setCell_far _ _ _ _ (by show q ≠ B; have := h.bq; omega)]; exact h.l0
  r0 := by rw [World.cell?_setCell_far _ _ _ _ (by show q + 1 ≠ B + 1; have := h.bq; omega), World.cell?_setCell_far _ _ _ _ (by show q ≠ B + 1; have := h.bq; omega)]; exact h.r0
  r1 := by rw [World.cell?_setCell_far _ _ _ _ (by show q + 1 ≠ B + 1 + 1; have := h.bq; omega), World.cell?_setCell_far _ _ _ _ (by show q ≠ B + 1 + 1; have := h.bq; omega)]; exact h.r1
  c0 := World.cell?_setCell_same _ _ _ ((World.cell?_setCell_far _ _ _ _ (by show q ≠ q + 1; omega)).trans h.c0)
  f0 := by
    obtain ⟨g0, e1, _⟩ := h.f0
    refine ⟨g, ?_, by simp only [World.size_setCell]; exact hg, h1, h2, (hF.setCell (by show q ≠ g; omega) _).setCell (by show q + 1 ≠ g; omega) _⟩
    rw [World.cell?_setCell_far _ _ _ _ (by show q + 1 ≠ q; omega)]
    exact World.cell?_setCell_same _ _ _ e1
  zr0 := by rw [World.frozen?_setCell, World.frozen?_setCell]; exact h.zr0
  zr1 := by rw [World.frozen?_setCell, World.frozen?_setCell]; exact h.zr1
  zc0 := by rw [World.frozen?_setCell, World.frozen?_setCell]; exact h.zc0
  zf0 := by rw [World.frozen?_setCell, World.frozen?_setCell]; exact h.zf0
end

/-- a number and a code -/
def powP (r : Option (List Int)) : Value := match r with | none => .tuple #[.int .i64 0, .int .i64 3] | some F => .tuple #[.int .i64 (F.getD 0 0), .int .i64 0]

section
variable (lo hi lo2 hi2 : Nat) (a a2 : Option Addr) (cap cap2 : Nat) (z q : List Int) (hl : z.length ≤ 1048576) (hl2 : q.length ≤ 1048576) (w : World) (hr : IRow lo hi w a z) (hh : hi ≤ w.heap.size) (hr2 : IRow lo2 hi2 w a2 q) (hh2 : hi2 ≤ w.heap.size)
include hl hl2 hr hh hr2 hh2
set_option maxHeartbeats 2000000 in
theorem iPow_1 (hn : listB z = false ∨ (listB z = true ∧ partsB 6 q = false)) :
    Calls Try.prog 19 #[.slice a z.length cap, .slice a2 q.length cap2] w fun e w' => e = .returned (.tuple #[.int .i64 0, .int .i64 2]) ∧ Below w.heap.size w w' := by
  have HL := Lib.hid (fun W (hb : Below w.heap.size w W) => isNumberList_c lo hi a cap z hl W (hr.below hb hh))
  have HP := Lib.hid (fun W (hb : Below w.heap.size w W) => isComposition_c lo2 hi2 a2 cap2 q hl2 W (hr2.below hb hh2) 6)
  clear hr hr2
  refine (callsIn_wide (n := 9)).1 ?_
  refine callsIn_of_wp_marks Try.func19 rfl trivial ?_ rfl
  simp only [Try.ntmps19, List.size_toArray, List.length_cons, List.length_nil, Nat.reduceAdd, Nat.reduceSub, Array.replicate_succ, Array.replicate_zero, List.push_toArray, List.append_toArray, List.nil_append, List.cons_append]
  rcases hn with h1 | ⟨h1, h2⟩
  · have H1 := Lib.hid h1
    clear h1
    gi_wp2_with (first | (refine ⟨trivial, ?_⟩; gi_at_call 42; refine (callsIn_wide.2 (HL.out _ (by repeat' (first | with_reducible exact Below.refl _ _ | (refine Below.alloc ?_ (by (try simp only [World.size_alloc]); omega) _))))).mono ?_; rw [H1.out]; rintro e w' ⟨rfl, rfl⟩))
    refine ⟨trivial, ?_⟩
    gi_wp2
    refine ⟨.tuple #[.int .i64 0, .int .i64 2], by simp [results, Try.results19, go_sem], rfl, ?_⟩
    go_grown
  · have H1 := Lib.hid h1
    have H2 := Lib.hid h2
    clear h1 h2
    gi_wp2_with (first | (refine ⟨trivial, ?_⟩; gi_at_call 42; refine (callsIn_wide.2 (HL.out _ (by repeat' (first | with_reducible exact Below.refl _ _ | (refine Below.alloc ?_ (by (try simp only [World.size_alloc]); omega) _))))).mono ?_; rw [H1.out]; rintro e w' ⟨rfl, rfl⟩) | (refine ⟨trivial, ?_⟩; gi_at_call 43; refine (callsIn_wide.2 (HP.out _ (by repeat' (first | with_reducible exact Below.refl _ _ | (refine Below.alloc ?_ (by (try simp only [World.size_alloc]); omega) _))))).mono ?_; rw [H2.out]; rintro e w' ⟨rfl, rfl⟩))
    refine ⟨.tuple #[.int .i64 0, .int .i64 2], by simp [results, Try.results19, go_sem], rfl, ?_⟩
    go_grown

set_option maxRecDepth 100000 in
set_option maxHeartbeats 8000000 in
theorem iPow_2 (h1 : listB z = true) (h2 : partsB 6 q = true) :
    Calls Try.prog 19 #[.slice a z.length cap, .slice a2 q.length cap2] w fun e w' => e = .returned (powP (psL z (bwA q))) ∧ Below w.heap.size w w' := by
  have hz := listB_true h1
  have hq := partsB_true h2
  have HL := Lib.hid (fun W (hb : Below w.heap.size w W) => isNumberList_c lo hi a cap z hl W (hr.below hb hh))
  have HP := Lib.hid (fun W (hb : Below w.heap.size w W) => isComposition_c lo2 hi2 a2 cap2 q hl2 W (hr2.below hb hh2) 6)
  have HR := Lib.hid hr
  have HR2 := Lib.hid hr2
  have H1 := Lib.hid h1
  have H2 := Lib.hid h2
  clear hr hr2 h1 h2
  refine (callsIn_wide (n := 9)).1 ?_
  refine callsIn_of_wp_marks Try.func19 rfl trivial ?_ rfl
  simp only [Try.ntmps19, List.size_toArray, List.length_cons, List.length_nil, Nat.reduceAdd, Nat.reduceSub, Array.replicate_succ, Array.replicate_zero, List.push_toArray, List.append_toArray, List.nil_append, List.cons_append]
  have k0 : IntKind.i64.wrap ((z.length : Int) + 1) = (z.length : Int) + 1 := IntWalk.i64_in _ (by omega)
  gi_wp2_with (first | (refine ⟨trivial, ?_⟩; gi_at_call 42; refine (callsIn_wide.2 (HL.out _ (by repeat' (first | with_reducible exact Below.refl _ _ | (refine Below.alloc ?_ (by (try simp only [World.size_alloc]); omega) _))))).mono ?_; rw [H1.out]; rintro e w' ⟨rfl, rfl⟩) | (refine ⟨trivial, ?_⟩; gi_at_call 43; refine (callsIn_wide.2 (HP.out _ (by repeat' (first | with_reducible exact Below.refl _ _ | (refine Below.alloc ?_ (by (try simp only [World.size_alloc]); omega) _))))).mono ?_; rw [H2.out]; rintro e w' ⟨rfl, rfl⟩) | fail)
  refine ⟨trivial, ?_⟩
  have hrep := repeat_c 1 (w.heap.size + 1 + 1 + 1) (z.length + 1) (by omega) ((((w.alloc (.cells #[.slice a z.length cap] 29)).alloc (.cells #[.int .i64 0] 2)).alloc (.cells #[.int .i64 0] 2)).alloc (.cells #[.int .i64 1] 2)) (by go_simp)
  rw [show ((z.length + 1 : Nat) : Int) = (z.length : Int) + 1 from rfl] at hrep
  refine (callsIn_wide.2 hrep).mono ?_
  rintro e w3 ⟨g, rfl, hg1, hb3, hM3, hV3⟩
  obtain ⟨w4, hw4⟩ : ∃ w4 : World, (((w.alloc (.cells #[.slice a z.length cap] 29)).alloc (.cells #[.int .i64 0] 2)).alloc (.cells #[.int .i64 0] 2)).alloc (.cells #[.int .i64 1] 2) = w4 := ⟨_, rfl⟩
  have hz4 : w4.heap.size = w.heap.size + 1 + 1 + 1 + 1 := by subst hw4; simp
  have c0 : w4.cell? ⟨w.heap.size, 0, none⟩ = some (.slice a z.length cap) := by subst hw4; go_simp
  have c1 : w4.cell? ⟨w.heap.size + 1, 0, none⟩ = some (.int .i64 0) ∧ w4.frozen? ⟨w.heap.size + 1, 0, none⟩ = false := by subst hw4; exact ⟨by go_simp, by go_simp⟩
  have c2 : w4.cell? ⟨w.heap.size + 1 + 1, 0, none⟩ = some (.int .i64 0) ∧ w4.frozen? ⟨w.heap.size + 1 + 1, 0, none⟩ = false := by subst hw4; exact ⟨by go_simp, by go_simp⟩
  have hB4 : Below w.heap.size w w4 := by subst hw4; exact below4 _ _ _ _ _
  rw [hw4] at hb3 hg1 
  have hz3 := hb3.size
  have d0 := (hb3.cell (p := ⟨w.heap.size, 0, none⟩) (by show w.heap.size < _; omega)).trans c0
  have d1 := (hb3.cell (p := ⟨w.heap.size + 1, 0, none⟩) (by show w.heap.size + 1 < _; omega)).trans c1.1
  have y1 := (hb3.frozen (p := ⟨w.heap.size + 1, 0, none⟩) (by show w.heap.size + 1 < _; omega)).trans c1.2
  have d2 := (hb3.cell (p := ⟨w.heap.size + 1 + 1, 0, none⟩) (by show w.heap.size + 1 + 1 < _; omega)).trans c2.1
  have y2 := (hb3.frozen (p := ⟨w.heap.size + 1 + 1, 0, none⟩) (by show w.heap.size + 1 + 1 < _; omega)).trans c2.2
  have HB3 := Lib.hid (hB4.trans (hb3.mono (by omega)))
  have HM3 := Lib.hid hM3
  have HV3 := Lib.hid hV3
  clear hrep hw4 c0 c1 c2 hB4 hM3 hV3
  gi_wp2_with (first | (refine ⟨trivial, ?_⟩; gi_at_call 45; refine (callsIn_wide.2 (backward_c _ _ _ _)).mono ?_; rintro e w' ⟨rfl, rfl⟩) | fail)
  obtain ⟨w8, hw8⟩ : ∃ w8 : World, ((w3.alloc (.cells #[.slice (some ⟨g, 0, none⟩) (z.length + 1) (z.length + 1)] 29)).alloc (.cells #[.int .i64 0] 2)).alloc (.cells #[.slice a2 q.length cap2] 29) = w8 := ⟨_, rfl⟩
  have hsz : w8.heap.size = w3.heap.size + 1 + 1 + 1 := by subst hw8; simp
  have hgs := HM3.out.1
  have HS : PwI z a cap w.heap.size w3.heap.size (List.replicate (z.length + 1) 1) w8 := by
    have hb8 : Below w3.heap.size w3 w8 := by subst hw8; exact below3 _ _ _ _
    exact ⟨by omega, by omega, (hb8.cell (p := ⟨w.heap.size, 0, none⟩) (by show w.heap.size < _; omega)).trans d0, (hb8.cell (p := ⟨w.heap.size + 1, 0, none⟩) (by show w.heap.size + 1 < _; omega)).trans d1, (hb8.cell (p := ⟨w.heap.size + 1 + 1, 0, none⟩) (by show w.heap.size + 1 + 1 < _; omega)).trans d2, by subst hw8; go_simp,
      ⟨g, by subst hw8; go_simp, by omega, by omega, by omega, fun j hj => by
        rw [Nat.zero_add, List.getElem_replicate]
        exact (hb8.cell (p := ⟨g, j, none⟩) (by show g < _; omega)).trans (HV3.out j (by simpa using hj))⟩,
      (hb8.frozen (p := ⟨w.heap.size + 1, 0, none⟩) (by show w.heap.size + 1 < _; omega)).trans y1, (hb8.frozen (p := ⟨w.heap.size + 1 + 1, 0, none⟩) (by show w.heap.size + 1 + 1 < _; omega)).trans y2, by subst hw8; go_simp, by subst hw8; go_simp⟩
  have HB8 : Below w.heap.size w w8 := by
    subst hw8
    exact HB3.out.trans ((below3 _ _ _ _).mono (by omega))
  have hlist : w8.cell? ⟨w3.heap.size + 1 + 1, 0, none⟩ = some (.slice a2 q.length cap2) := by subst hw8; go_simp
  rw [hw8]
  clear hw8 HB3 HM3 HV3 d0 d1 d2 y1 y2 H1 H2 HL HP
  refine wpIn_rangeFunc_ownF rfl (by omega) (gf := 65) (lb := #[.pointer (some ⟨w3.heap.size + 1 + 1, 0, none⟩)]) rfl trivial (enters_of Try.func65 (by kernel_rfl) rfl)
    (backward_stops Fence.wide 8 trivial rfl (by omega) (w3.heap.size + 1 + 1) w.heap.size lo2 hi2 a2 cap2 q (by omega) w8 (by omega) (by omega) hh2 hlist (HR2.out.below HB8 hh2)) kpB_t (kpB_b (by omega)) (Below.refl _ _) (fun _ => rfl)
    (fun pre W => (∃ F, psL z pre = some F ∧ PwI z a cap w.heap.size w3.heap.size F W) ∧ Below w.heap.size w W)
    (fun c pre W => (c = .ret ∧ psL z pre = none ∧ W.cell? ⟨w.heap.size + 1, 0, none⟩ = some (.int .i64 0) ∧ W.cell? ⟨w.heap.size + 1 + 1, 0, none⟩ = some (.int .i64 3)) ∧ Below w.heap.size w W)
    (OwnFrom.and (Own.from (fun s A B row hs hg hr => by obtain ⟨F, h1, h2⟩ := hs; exact ⟨F, h1, h2.kept hg hr⟩) _) (ownFrom_below (Nat.le_refl _) (by omega)))
    (fun c => OwnFrom.and (Own.from (fun s A B row hs hg hr => ⟨hs.1, hs.2.1, cell_kept hs.2.2.1 hg hr, cell_kept hs.2.2.2 hg hr⟩) _) (ownFrom_below (Nat.le_refl _) (by omega)))
    ⟨⟨_, rfl, HS⟩, HB8⟩
    (fun x => { tmps := #[.slice a z.length cap, .slice a2 q.length cap2, .pointer (some ⟨w.heap.size, 0, none⟩), undef, .pointer (some ⟨w.heap.size + 1, 0, none⟩), .pointer (some ⟨w.heap.size + 1 + 1, 0, none⟩), .pointer (some ⟨w3.heap.size, 0, none⟩), .pointer (some ⟨w3.heap.size + 1, 0, none⟩), undef, .int .i64 x.1.2, .slice a z.length cap, .bool true, .bool false, .bool false, .slice a2 q.length cap2, .bool true, .bool false, .bool false, .slice (some ⟨w.heap.size + 1 + 1 + 1, 0, none⟩) 1 1, .slice a z.length cap, .int .i64 z.length, .int .i64 ((z.length : Int) + 1), .slice (some ⟨g, 0, none⟩) (z.length + 1) (z.length + 1), .slice a2 q.length cap2, .func (.func 65) #[] #[.pointer (some ⟨w3.heap.size + 1 + 1, 0, none⟩)], .int .i64 (x.1.1 : Int), .int .i64 x.1.2, undef, undef, undef, undef, undef, undef, undef, undef, undef, undef, undef, undef, undef], defers := [] }) ?assign ?body ?done ?stop
  case assign =>
    intro l x W K hK
    simp only [encP]
    gi_wp2
    exact hK
  case body =>
    rintro l pre ⟨⟨i, x⟩, hj, hx⟩ W ⟨⟨F, hF, hI⟩, hBW⟩ _
    simp only at hj hx
    have hxq := hq.2 x (by rw [← hx]; exact List.getElem_mem hj)
    obtain ⟨p, rfl⟩ : ∃ p : Nat, x = p := ⟨x.toNat, by omega⟩
    have hgF := psL_good hF
    obtain ⟨g1, s1, s2, -, -, s5⟩ := hI.f0
    have hsw := sumsWithPart_c lo hi 0 W.heap.size a (some ⟨g1, 0, none⟩) cap (z.length + 1) z F hz.1 hz.2 p (by omega) hgF W (HR.out.below hBW hh) (Nat.le_trans hh hBW.size) (.inr ⟨g1, 0, rfl, Nat.zero_le _, s2, s5⟩) (Nat.le_refl _)
    rw [hgF.1] at hsw
    have hst := psL_snoc (z := z) pre ⟨(i, (p : Int)), hj, hx⟩
    rw [hF] at hst
    simp only [Option.bind_some, Int.toNat_natCast] at hst
    have HI := Lib.hid hI
    have q0 := hI.l0
    have hszW := hI.sz
    have hbq := hI.bq
    have n1 : w3.heap.size ≠ w.heap.size + 1 := by omega
    have n2 : w3.heap.size ≠ w.heap.size + 1 + 1 := by omega
    have n3 : w3.heap.size + 1 ≠ w.heap.size + 1 := by omega
    have n4 : w3.heap.size + 1 ≠ w.heap.size + 1 + 1 := by omega
    have m1 : w.heap.size + 1 ≠ w3.heap.size := by omega
    have m2 : w.heap.size + 1 + 1 ≠ w3.heap.size := by omega
    have m3 : w.heap.size + 1 ≠ w3.heap.size + 1 := by omega
    have m4 : w.heap.size + 1 + 1 ≠ w3.heap.size + 1 := by omega
    cases hS : swL z p F (bwA z) with
    | none =>
      have HN := Lib.hid (hst.trans hS)
      rw [hS] at hsw
      have HSw := Lib.hid (hsw.mono (fun e w' h => (h : e = .returned (.tuple #[.slice none 0 0, .int .i64 3]) ∧ Below W.heap.size W w')))
      clear hst hS hsw hgF s5 hI hF
      gi_wp2_with (first | (refine ⟨trivial, ?_⟩; gi_at_call 46; refine (CallsIn.inRound l (callsIn_wide.2 HSw.out)).mono ?_; rintro e w5 ⟨rfl, hb5⟩; have HI5 := Lib.hid (HI.out.below hb5); obtain ⟨g5, u1, -⟩ := HI5.out.f0; have u2 := HI5.out.zf0; have u3 := HI5.out.c0; have u4 := HI5.out.zc0; have u5 := HI5.out.r0; have u6 := HI5.out.zr0; have u7 := HI5.out.r1; have u8 := HI5.out.zr1; have HB5 := Lib.hid hb5; clear hb5) | fail)
      have hK7 : KeepsOthers W ((w5.setCell ⟨w3.heap.size, 0, none⟩ (.slice none 0 0)).setCell ⟨w3.heap.size + 1, 0, none⟩ (.int .i64 3)) := ((keeps_below HB5.out).trans (KeepsOthers.setCell _ _ _)).trans (KeepsOthers.setCell _ _ _)
      have hB7 : Below w.heap.size W ((w5.setCell ⟨w3.heap.size, 0, none⟩ (.slice none 0 0)).setCell ⟨w3.heap.size + 1, 0, none⟩ (.int .i64 3)) := ((HB5.out.mono (by omega)).setCell (p := ⟨w3.heap.size, 0, none⟩) (by show _ ≤ w3.heap.size; omega) _).setCell (p := ⟨w3.heap.size + 1, 0, none⟩) (by show _ ≤ w3.heap.size + 1; omega) _
      have v0 : ((w5.setCell ⟨w3.heap.size, 0, none⟩ (.slice none 0 0)).setCell ⟨w3.heap.size + 1, 0, none⟩ (.int .i64 3)).cell? ⟨w3.heap.size + 1, 0, none⟩ = some (.int .i64 3) := World.cell?_setCell_same _ _ _ ((World.cell?_setCell_far _ _ _ _ (by show w3.heap.size ≠ w3.heap.size + 1; omega)).trans u3)
      have v1 : ((w5.setCell ⟨w3.heap.size, 0, none⟩ (.slice none 0 0)).setCell ⟨w3.heap.size + 1, 0, none⟩ (.int .i64 3)).cell? ⟨w.heap.size + 1, 0, none⟩ = some (.int .i64 0) := by rw [World.cell?_setCell_far _ _ _ _ n3, World.cell?_setCell_far _ _ _ _ n1]; exact u5
      have v2 : ((w5.setCell ⟨w3.heap.size, 0, none⟩ (.slice none 0 0)).setCell ⟨w3.heap.size + 1, 0, none⟩ (.int .i64 3)).cell? ⟨w.heap.size + 1 + 1, 0, none⟩ = some (.int .i64 0) := by rw [World.cell?_setCell_far _ _ _ _ n4, World.cell?_setCell_far _ _ _ _ n2]; exact u7
      have v3 : ((w5.setCell ⟨w3.heap.size, 0, none⟩ (.slice none 0 0)).setCell ⟨w3.heap.size + 1, 0, none⟩ (.int .i64 3)).frozen? ⟨w.heap.size + 1, 0, none⟩ = false := by rw [World.frozen?_setCell, World.frozen?_setCell]; exact u6
      have v4 : ((w5.setCell ⟨w3.heap.size, 0, none⟩ (.slice none 0 0)).setCell ⟨w3.heap.size + 1, 0, none⟩ (.int .i64 3)).frozen? ⟨w.heap.size + 1 + 1, 0, none⟩ = false := by rw [World.frozen?_setCell, World.frozen?_setCell]; exact u8
      obtain ⟨w7, hw7⟩ : ∃ w7, (w5.setCell ⟨w3.heap.size, 0, none⟩ (.slice none 0 0)).setCell ⟨w3.heap.size + 1, 0, none⟩ (.int .i64 3) = w7 := ⟨_, rfl⟩
      rw [hw7] at hK7 hB7 v0 v1 v2 v3 v4 ⊢
      have hmx : Try.prog.follows .mixedOrders = true := by kernel_rfl
      clear hw7 u1 u2 u3 u4 u5 u6 u7 u8
      gi_region_with_o fail
      all_goals gi_wp2
      all_goals
        refine ⟨((hK7.trans (KeepsOthers.setCell _ _ _)).trans (KeepsOthers.setCell _ _ _)).trans (KeepsOthers.drew _), ⟨rfl, HN.out, ?_, ?_⟩, Below.drew (((hBW.trans hB7).setCell (p := ⟨w.heap.size + 1, 0, none⟩) (by show _ ≤ w.heap.size + 1; omega) _).setCell (p := ⟨w.heap.size + 1 + 1, 0, none⟩) (by show _ ≤ w.heap.size + 1 + 1; omega) _)⟩
        · rw [cell_drew_own, World.cell?_setCell_far _ _ _ _ (by show w.heap.size + 1 + 1 ≠ w.heap.size + 1; omega)]
          exact World.cell?_setCell_same _ _ _ v1
        · rw [cell_drew_own]
          exact World.cell?_setCell_same _ _ _ ((World.cell?_setCell_far _ _ _ _ (by show w.heap.size + 1 ≠ w.heap.size + 1 + 1; omega)).trans v2)
    | some F' =>
      have HN := Lib.hid (hst.trans hS)
      have hl' := (swL_good hS).1
      rw [hS] at hsw
      have HSw := Lib.hid (hsw.mono (R' := fun e w' => ∃ g, e = .returned (.tuple #[.slice (some ⟨g, 0, none⟩) (z.length + 1) (z.length + 1), .int .i64 0]) ∧ Below W.heap.size W w' ∧ W.heap.size ≤ g ∧ g < w'.heap.size ∧ IntsIn w' g 0 F') (fun e w' h => by
        obtain ⟨g, h1, h2, h3, h4, h5⟩ := h
        exact ⟨g, by rw [h1, hl'], h2, h3, h4.1, h5⟩))
      clear hst hS hsw hgF s5 hI hF
      gi_wp2_with (first | (refine ⟨trivial, ?_⟩; gi_at_call 46; refine (CallsIn.inRound l (callsIn_wide.2 HSw.out)).mono ?_; rintro e w5 ⟨g', rfl, hb5, hg5, hg6, hg7⟩; have HI5 := Lib.hid (HI.out.below hb5); obtain ⟨g5, u1, -⟩ := HI5.out.f0; have u2 := HI5.out.zf0; have u3 := HI5.out.c0; have u4 := HI5.out.zc0; have HB5 := Lib.hid hb5; have HG7 := Lib.hid hg7; clear hb5 hg7) | fail)
      have hK7 : KeepsOthers W ((w5.setCell ⟨w3.heap.size, 0, none⟩ (.slice (some ⟨g', 0, none⟩) (z.length + 1) (z.length + 1))).setCell ⟨w3.heap.size + 1, 0, none⟩ (.int .i64 0)) := ((keeps_below HB5.out).trans (KeepsOthers.setCell _ _ _)).trans (KeepsOthers.setCell _ _ _)
      have hB7 : Below w.heap.size W ((w5.setCell ⟨w3.heap.size, 0, none⟩ (.slice (some ⟨g', 0, none⟩) (z.length + 1) (z.length + 1))).setCell ⟨w3.heap.size + 1, 0, none⟩ (.int .i64 0)) := ((HB5.out.mono (by omega)).setCell (p := ⟨w3.heap.size, 0, none⟩) (by show _ ≤ w3.heap.size; omega) _).setCell (p := ⟨w3.heap.size + 1, 0, none⟩) (by show _ ≤ w3.heap.size + 1; omega) _
      have hX7 : ∀ u, W.cell? ⟨w3.heap.size + 1 + 1, 0, none⟩ = some u → ((w5.setCell ⟨w3.heap.size, 0, none⟩ (.slice (some ⟨g', 0, none⟩) (z.length + 1) (z.length + 1))).setCell ⟨w3.heap.size + 1, 0, none⟩ (.int .i64 0)).cell? ⟨w3.heap.size + 1 + 1, 0, none⟩ = some u := fun u hu => by
        rw [World.cell?_setCell_far _ _ _ _ (by show w3.heap.size + 1 ≠ w3.heap.size + 1 + 1; omega), World.cell?_setCell_far _ _ _ _ (by show w3.heap.size ≠ w3.heap.size + 1 + 1; omega)]
        exact (HB5.out.cell (p := ⟨w3.heap.size + 1 + 1, 0, none⟩) (by show w3.heap.size + 1 + 1 < _; omega)).trans hu
      exact ⟨hK7, ⟨hB7, hX7⟩, ⟨_, HN.out, HI5.out.put hg6 (by omega) (by omega) HG7.out⟩, hBW.trans hB7⟩
  case done =>
    rintro D ys W hD rfl ⟨⟨F, hF, hI⟩, hBW⟩ hK
    have hlF := (psL_good hF).1
    have HF := Lib.hid hF
    have HBW := Lib.hid hBW
    obtain ⟨g1, s1, -, -, -, s5⟩ := hI.f0
    have s6 := s5 0 (by omega)
    rw [Nat.zero_add] at s6
    have hv : F.getD 0 0 = F[0]'(by omega) := by simp [List.getD, show 0 < F.length by omega]
    rw [← hv] at s6
    obtain ⟨v, hv2⟩ : ∃ v, F.getD 0 0 = v := ⟨_, rfl⟩
    have HV := Lib.hid hv2
    rw [hv2] at s6
    have t1 := hI.r0
    have t2 := hI.r1
    have y1 := hI.zr0
    have y2 := hI.zr1
    have e0 : (0 : Int) < (z.length : Int) + 1 := by omega
    clear hF hI hBW s5 hv hv2
    gi_wp2
    obtain ⟨W2, hW2⟩ : ∃ W2, (W.setCell ⟨w.heap.size + 1, 0, none⟩ (.int .i64 v)).setCell ⟨w.heap.size + 1 + 1, 0, none⟩ (.int .i64 0) = W2 := ⟨_, rfl⟩
    have hK2 : W2.heap[D]? = some (.deferred (some [])) := by
      rw [← hW2]
      exact (KeepsOthers.setCell _ _ _).same D _ ((KeepsOthers.setCell _ _ _).same D _ hK rfl) rfl
    have d0 : W2.cell? ⟨w.heap.size + 1, 0, none⟩ = some (.int .i64 v) := by
      rw [← hW2, World.cell?_setCell_far _ _ _ _ (by show w.heap.size + 1 + 1 ≠ w.heap.size + 1; omega)]
      exact World.cell?_setCell_same _ _ _ t1
    have d1 : W2.cell? ⟨w.heap.size + 1 + 1, 0, none⟩ = some (.int .i64 0) := by
      rw [← hW2]
      exact World.cell?_setCell_same _ _ _ ((World.cell?_setCell_far _ _ _ _ (by show w.heap.size + 1 ≠ w.heap.size + 1 + 1; omega)).trans t2)
    have hB2 : Below w.heap.size w W2 := by
      rw [← hW2]
      exact (HBW.out.setCell (p := ⟨w.heap.size + 1, 0, none⟩) (by show _ ≤ w.heap.size + 1; omega) _).setCell (p := ⟨w.heap.size + 1 + 1, 0, none⟩) (by show _ ≤ w.heap.size + 1 + 1; omega) _
    rw [hW2]
    clear hW2
    have hrow : ∀ r, some D = some r → ∃ o : Obj, W2.heap[r]? = some o ∧ o.isCells = false := fun r e => by cases e; exact ⟨_, hK2, rfl⟩
    have c0 := cell_kept d0 (grownBy_putObj' W2 D (.deferred none)) hrow
    have c1 := cell_kept d1 (grownBy_putObj' W2 D (.deferred none)) hrow
    refine ⟨by simp, .inl ⟨_, _, rfl, run_takeDeferred hK2, ?_⟩⟩
    refine ⟨.tuple #[.int .i64 v, .int .i64 0], by simp [results, Try.results19, go_sem, c0, c1], by rw [HF.out]; show _ = Ending.returned (.tuple #[.int .i64 (F.getD 0 0), .int .i64 0]); rw [HV.out], ?_⟩
    exact hB2.trans (belowK_b (w := w) (Nat.le_refl _) W2 D _ _ (by omega) hK2 rfl rfl)
  case stop =>
    rintro D c pre W hD ⟨k, hk, rfl⟩ ⟨⟨rfl, hn, h0, h1⟩, hBW⟩ hK
    have HN := Lib.hid (psL_stop hk hn)
    clear hn
    gi_wp2
    have hrow : ∀ r, some D = some r → ∃ o : Obj, W.heap[r]? = some o ∧ o.isCells = false := fun r e => by cases e; exact ⟨_, hK, rfl⟩
    have c0 := cell_kept h0 (grownBy_putObj' W D (.deferred none)) hrow
    have c1 := cell_kept h1 (grownBy_putObj' W D (.deferred none)) hrow
    refine ⟨by simp, .inl ⟨_, _, rfl, run_takeDeferred hK, ?_⟩⟩
    refine ⟨.tuple #[.int .i64 0, .int .i64 3], by simp [results, Try.results19, go_sem, c0, c1], by rw [HN.out]; rfl, ?_⟩
    exact hBW.trans (belowK_b (w := w) (Nat.le_refl _) W D _ _ (by omega) hK rfl rfl)
end
end Go.Proofs.Ytncodnjnndjjaaa
