/-
  Contracts of ShuffleSeries, of the program and of its model: both return the same series and code.
  Contracts of ShufflePower, of the program and of its model: both return the same series and code.
-/
import Derived.Test.YtdgkkcjjfpenpaaGreatDoorShmS
import Derived.Test.YtdgkkcjjfpenpaaGreatDoorShsD
import Derived.Test.YtdgkkcjjfpenpaaGreatDoorPairT
import Derived.Test.YtdgkkcjjfpenpaaGreatDoorAddP
import Derived.Test.YtdgkkcjjfpenpaaGreatDoorUnitS
namespace Go.Proofs.YtdgkkcjjfpenpaaGreatDoor
open Go.RowKit
set_option linter.unusedVariables false

/-- the shuffle of two series, if all fits -/
def shsL (D N : Nat) (xs ys : List Tm) : Option (List Tm) := (shAll D N ys xs (fun _ => none)).map fun h => termsOf h (allW D N)
set_option maxRecDepth 100000 in
set_option maxHeartbeats 4000000 in
theorem iShs_1 (L1 V1 L2 V2 : Int) (g1 g2 : Nat) (xs ys : List Tm) (hl1 : xs.length ≤ 1048576) (hl2 : ys.length ≤ 1048576) (hs1 : ∀ i (h : i < xs.length), (xs[i]).s.size ≤ maxLen) (hs2 : ∀ i (h : i < ys.length), (ys[i]).s.size ≤ maxLen) (c : Int) (hc : codeL L1 V1 xs L2 V2 ys = c) (hc0 : c ≠ 0) (w : World) (hb1 : g1 < w.heap.size) (hb2 : g2 < w.heap.size) (t1 : TermsIn w g1 0 xs) (t2 : TermsIn w g2 0 ys) :
    Calls Tryz.prog 41 #[.agg #[.int .i64 L1, .int .i64 V1, .slice (some ⟨g1, 0, none⟩) xs.length xs.length], .agg #[.int .i64 L2, .int .i64 V2, .slice (some ⟨g2, 0, none⟩) ys.length ys.length]] w (SerPost 0 0 [] c w) := by
  have HT1 := Lib.hid t1
  have HT2 := Lib.hid t2
  have HS1 := Lib.hid hs1
  have HS2 := Lib.hid hs2
  have HC := Lib.hid hc
  have hcn : (c != 0) = true := by simpa using hc0
  clear t1 t2 hs1 hs2 hc hc0
  go_enter Tryz.func41, Tryz.ntmps41
  go_wp2_with fail
  refine (checkFactors_c L1 V1 L2 V2 g1 g2 _ _ xs ys hl1 hl2 HS1.out HS2.out _ (by simp; omega) (by simp; omega) (HT1.out.below (below3 w _ _ _) hb1) (HT2.out.below (below3 w _ _ _) hb2)).mono ?_
  rw [HC.out]
  rintro e w1 ⟨rfl, hb⟩
  have hB := hb
  simp only [World.size_alloc] at hB
  have bc := bcellB hB
  have r0 : w1.cell? ⟨w.heap.size + 1 + 1, 0, none⟩ = some (.int .i64 0) := (bc.1 _ _ (by omega)).trans (by go_simp)
  have r1 : w1.cell? ⟨w.heap.size + 1 + 1, 1, none⟩ = some (.int .i64 0) := (bc.1 _ _ (by omega)).trans (by go_simp)
  have r2 : w1.cell? ⟨w.heap.size + 1 + 1, 2, none⟩ = some (.slice none 0 0) := (bc.1 _ _ (by omega)).trans (by go_simp)
  have z0 : w1.frozen? ⟨w.heap.size + 1 + 1, 0, none⟩ = false := (bc.2 _ _ (by omega)).trans (by go_simp)
  have z1 : w1.frozen? ⟨w.heap.size + 1 + 1, 1, none⟩ = false := (bc.2 _ _ (by omega)).trans (by go_simp)
  have z2 : w1.frozen? ⟨w.heap.size + 1 + 1, 2, none⟩ = false := (bc.2 _ _ (by omega)).trans (by go_simp)
  have HW := Lib.hid ((below3 w _ _ _).trans (hB.mono (by omega)))
  have hz : w.heap.size + 1 + 1 < w1.heap.size := by have := hB.size; simp at this; omega
  clear bc hB hb
  go_wp2
  refine bodyPost_ret (v := .tuple #[.agg #[.int .i64 0, .int .i64 0, .slice none 0 0], .int .i64 c]) (by simp [results, Tryz.results41, go_sem, r0, r1, r2]) rfl (SerPost.err c rfl ?_)
  have hW := HW.out
  go_grown

set_option maxRecDepth 100000 in
set_option maxHeartbeats 4000000 in
theorem iShs_2 (D N : Nat) (g1 g2 : Nat) (xs ys : List Tm) (hl1 : xs.length ≤ 1048576) (hl2 : ys.length ≤ 1048576) (hs1 : ∀ i (h : i < xs.length), (xs[i]).s.size ≤ maxLen) (hs2 : ∀ i (h : i < ys.length), (ys[i]).s.size ≤ maxLen) (h1 : serB D N xs = true) (h2 : serB D N ys = true) (w : World) (hb1 : g1 < w.heap.size) (hb2 : g2 < w.heap.size) (t1 : TermsIn w g1 0 xs) (t2 : TermsIn w g2 0 ys) :
    Calls Tryz.prog 41 #[.agg #[.int .i64 D, .int .i64 N, .slice (some ⟨g1, 0, none⟩) xs.length xs.length], .agg #[.int .i64 D, .int .i64 N, .slice (some ⟨g2, 0, none⟩) ys.length ys.length]] w (ShsPost D N (shsL D N xs ys) w) := by
  have hsh : shapeB (D : Int) (N : Int) = true := by unfold serB at h1; rw [Bool.and_eq_true] at h1; exact h1.1
  have hDN := shape_out hsh
  have HT1 := Lib.hid t1
  have HT2 := Lib.hid t2
  have HS1 := Lib.hid hs1
  have HS2 := Lib.hid hs2
  have HC := Lib.hid (codeL_4 h1 h2 (show alikeB (D : Int) (N : Int) (D : Int) (N : Int) = true by simp [alikeB]))
  have HTm := Lib.hid (fun W r1 r2 => sums_c D N (by omega) (by omega) (some ⟨g1, 0, none⟩) (some ⟨g2, 0, none⟩) xs.length ys.length xs ys h1 h2 hl1 hl2 W r1 r2)
  have HMr := Lib.hid (show shsL D N xs ys = (shAll D N ys xs (fun _ => none)).map (fun h => termsOf h (allW D N)) from rfl)
  clear t1 t2 hs1 hs2 h1 h2 hsh
  go_enter Tryz.func41, Tryz.ntmps41
  go_wp2_with fail
  refine (checkFactors_c D N D N g1 g2 _ _ xs ys hl1 hl2 HS1.out HS2.out _ (by simp; omega) (by simp; omega) (HT1.out.below (below3 w _ _ _) hb1) (HT2.out.below (below3 w _ _ _) hb2)).mono ?_
  rw [HC.out]
  rintro e w1 ⟨rfl, hb⟩
  have HB := Lib.hid (show Below (w.heap.size + 1 + 1 + 1) (((w.alloc (.cells #[.int .i64 D, .int .i64 N, .slice (some ⟨g1, 0, none⟩) xs.length xs.length] 24)).alloc (.cells #[.int .i64 D, .int .i64 N, .slice (some ⟨g2, 0, none⟩) ys.length ys.length] 24)).alloc (.cells #[.int .i64 0, .int .i64 0, .slice none 0 0] 24)) w1 from by simpa using hb)
  have hz1 : w.heap.size + 1 + 1 + 1 ≤ w1.heap.size := by have := HB.out.size; simp at this; omega
  have HW := Lib.hid ((below3 w _ _ _).trans (HB.out.mono (by omega)))
  have bc := bcellB HB.out
  have x0 : w1.cell? ⟨w.heap.size, 0, none⟩ = some (.int .i64 D) := (bc.1 _ _ (by omega)).trans (by go_simp)
  have x1 : w1.cell? ⟨w.heap.size, 1, none⟩ = some (.int .i64 N) := (bc.1 _ _ (by omega)).trans (by go_simp)
  have x2 : w1.cell? ⟨w.heap.size, 2, none⟩ = some (.slice (some ⟨g1, 0, none⟩) xs.length xs.length) := (bc.1 _ _ (by omega)).trans (by go_simp)
  have y0 : w1.cell? ⟨w.heap.size + 1, 0, none⟩ = some (.int .i64 D) := (bc.1 _ _ (by omega)).trans (by go_simp)
  have y1 : w1.cell? ⟨w.heap.size + 1, 1, none⟩ = some (.int .i64 N) := (bc.1 _ _ (by omega)).trans (by go_simp)
  have y2 : w1.cell? ⟨w.heap.size + 1, 2, none⟩ = some (.slice (some ⟨g2, 0, none⟩) ys.length ys.length) := (bc.1 _ _ (by omega)).trans (by go_simp)
  clear hb bc
  go_wp2_with fail
  refine (HTm.out _ (.inr ⟨g1, 0, rfl, by omega, HT1.out.below HW.out hb1⟩) (.inr ⟨g2, 0, rfl, by omega, HT2.out.below HW.out hb2⟩)).mono ?_
  rw [← HMr.out]
  clear x0 x1 x2 y0 y1 y2
  cases hr : shsL D N xs ys with
  | none =>
    rintro e w2 ⟨a3, c3, rfl, hb, hN⟩
    have HB2 := Lib.hid (HB.out.trans (hb.mono (by omega)))
    have hz2 : w.heap.size + 1 + 1 < w2.heap.size := by have := hb.size; omega
    have bc := bcellB HB2.out
    have r0 : w2.cell? ⟨w.heap.size + 1 + 1, 0, none⟩ = some (.int .i64 0) := (bc.1 _ _ (by omega)).trans (by go_simp)
    have r1 : w2.cell? ⟨w.heap.size + 1 + 1, 1, none⟩ = some (.int .i64 0) := (bc.1 _ _ (by omega)).trans (by go_simp)
    have r2 : w2.cell? ⟨w.heap.size + 1 + 1, 2, none⟩ = some (.slice none 0 0) := (bc.1 _ _ (by omega)).trans (by go_simp)
    have z0 : w2.frozen? ⟨w.heap.size + 1 + 1, 0, none⟩ = false := (bc.2 _ _ (by omega)).trans (by go_simp)
    have z1 : w2.frozen? ⟨w.heap.size + 1 + 1, 1, none⟩ = false := (bc.2 _ _ (by omega)).trans (by go_simp)
    have z2 : w2.frozen? ⟨w.heap.size + 1 + 1, 2, none⟩ = false := (bc.2 _ _ (by omega)).trans (by go_simp)
    have HW2 := Lib.hid ((below3 w _ _ _).trans (HB2.out.mono (by omega)))
    have HRr := Lib.hid hr
    have HN := Lib.hid hN
    clear bc hb hr hN
    go_wp2
    rw [HRr.out]
    refine bodyPost_ret (v := .tuple #[.agg #[.int .i64 0, .int .i64 0, .slice a3 ([] : List Tm).length c3], .int .i64 3]) (by simp [results, Tryz.results41, go_sem, r0, r1, r2]) rfl ⟨a3, c3, rfl, ?_, .inl rfl⟩
    have hW := HW2.out
    go_grown
  | some ts =>
    rintro e w2 ⟨a3, c3, rfl, hb, hN⟩
    have HB2 := Lib.hid (HB.out.trans (hb.mono (by omega)))
    have hz2 : w.heap.size + 1 + 1 < w2.heap.size := by have := hb.size; omega
    have bc := bcellB HB2.out
    have r0 : w2.cell? ⟨w.heap.size + 1 + 1, 0, none⟩ = some (.int .i64 0) := (bc.1 _ _ (by omega)).trans (by go_simp)
    have r1 : w2.cell? ⟨w.heap.size + 1 + 1, 1, none⟩ = some (.int .i64 0) := (bc.1 _ _ (by omega)).trans (by go_simp)
    have r2 : w2.cell? ⟨w.heap.size + 1 + 1, 2, none⟩ = some (.slice none 0 0) := (bc.1 _ _ (by omega)).trans (by go_simp)
    have z0 : w2.frozen? ⟨w.heap.size + 1 + 1, 0, none⟩ = false := (bc.2 _ _ (by omega)).trans (by go_simp)
    have z1 : w2.frozen? ⟨w.heap.size + 1 + 1, 1, none⟩ = false := (bc.2 _ _ (by omega)).trans (by go_simp)
    have z2 : w2.frozen? ⟨w.heap.size + 1 + 1, 2, none⟩ = false := (bc.2 _ _ (by omega)).trans (by go_simp)
    have HW2 := Lib.hid ((below3 w _ _ _).trans (HB2.out.mono (by omega)))
    have HN := Lib.hid hN
    have HRr := Lib.hid hr
    clear bc hb hr hN
    go_wp2
    rw [HRr.out]
    refine bodyPost_ret (v := .tuple #[.agg #[.int .i64 D, .int .i64 N, .slice a3 ts.length c3], .int .i64 0]) (by simp [results, Tryz.results41, go_sem, r0, r1, r2]) rfl ⟨a3, c3, rfl, ?_, ?_⟩
    · have hW := HW2.out
      go_grown
    · have hw2 : w.heap.size + 1 + 1 < w1.heap.size := by omega
      exact ((((HN.out.far1s (n := w.heap.size + 1 + 1) (i := 0) (x := .int .i64 D) (by omega)).far1s (n := w.heap.size + 1 + 1) (i := 1) (x := .int .i64 N) (by omega)).far1s (n := w.heap.size + 1 + 1) (i := 2) (x := .slice a3 ts.length c3) (by omega))).mono (by omega) (by simp)
end Go.Proofs.YtdgkkcjjfpenpaaGreatDoor

namespace Go.Proofs.YtdgkkcjjfpenpaaGreatDoor
open Go.RowKit
set_option linter.unusedVariables false

theorem GoodV.shPair {D N : Nat} (hD : D ≤ 3) (hN : N ≤ 5) {s t : Tm} (hs : wordB (D : Int) s.s.data.toList = true) (ht : wordB (D : Int) t.s.data.toList = true) {f h : VF} (hf : GoodV (allW D N) f) (e : shPair D N s t f = some h) : GoodV (allW D N) h := by
  unfold Go.Proofs.YtdgkkcjjfpenpaaGreatDoor.shPair at e
  split at e
  · split at e
    · rename_i hfit
      exact hf.shK (fun x hx => ((each_good hD hN hs ht hfit).1 x hx).1) e
    · injection e with e; rw [← e]; exact hf
  · cases e
theorem GoodV.shRow {D N : Nat} (hD : D ≤ 3) (hN : N ≤ 5) {s : Tm} (hs : wordB (D : Int) s.s.data.toList = true) : ∀ {ys : List Tm} {f h : VF}, (∀ t ∈ ys, wordB (D : Int) t.s.data.toList = true) → GoodV (allW D N) f → shRow D N s ys f = some h → GoodV (allW D N) h
  | [], f, h, _, hf, e => by
    unfold Go.Proofs.YtdgkkcjjfpenpaaGreatDoor.shRow at e
    injection e with e; rw [← e]; exact hf
  | t :: ys, f, h, hy, hf, e => by
    unfold Go.Proofs.YtdgkkcjjfpenpaaGreatDoor.shRow at e
    obtain ⟨f', h1, h2⟩ := Option.bind_eq_some_iff.1 e
    exact GoodV.shRow hD hN hs (fun u hu => hy u (List.mem_cons_of_mem _ hu)) (hf.shPair hD hN hs (hy t (List.mem_cons_self ..)) h1) h2
theorem GoodV.shAll {D N : Nat} (hD : D ≤ 3) (hN : N ≤ 5) {ys : List Tm} (hy : ∀ t ∈ ys, wordB (D : Int) t.s.data.toList = true) : ∀ {xs : List Tm} {f h : VF}, (∀ t ∈ xs, wordB (D : Int) t.s.data.toList = true) → GoodV (allW D N) f → shAll D N ys xs f = some h → GoodV (allW D N) h
  | [], f, h, _, hf, e => by
    unfold Go.Proofs.YtdgkkcjjfpenpaaGreatDoor.shAll at e
    injection e with e; rw [← e]; exact hf
  | s :: xs, f, h, hx, hf, e => by
    unfold Go.Proofs.YtdgkkcjjfpenpaaGreatDoor.shAll at e
    obtain ⟨f', h1, h2⟩ := Option.bind_eq_some_iff.1 e
    exact GoodV.shAll hD hN hy (fun u hu => hx u (List.mem_cons_of_mem _ hu)) (hf.shRow hD hN (hx s (List.mem_cons_self ..)) hy h1) h2
theorem good_unitP (D N : Nat) : GoodV (allW D N) unitF := fun s p h => by
  unfold unitF setF at h
  split at h
  · rename_i hs
    injection h with h
    subst h
    obtain ⟨r, e, _⟩ := allW_head D N
    exact ⟨by rw [e, hs]; simp, by decide, by decide⟩
  · cases h
/-- what a function comes to that returns a series of values, if all fits -/
def FitVp (D N : Nat) (r : Option VF) (W : World) (e : Ending) (w' : World) : Prop := match r with | none => SerPost 0 0 [] 3 W e w' | some h => SerPost D N (termsOf h (allW D N)) 0 W e w'
/-- the shuffle powers of a series -/
def shpV (D N : Nat) (xs : List Tm) : Nat → Option VF
  | 0 => some unitF
  | k + 1 => (shpV D N xs k).bind fun p => shAll D N xs (termsOf p (allW D N)) (fun _ => none)
theorem shpV_next {D N : Nat} {xs : List Tm} {p : VF} {k : Nat} (h : shpV D N xs k = some p) : shpV D N xs (k + 1) = shAll D N xs (termsOf p (allW D N)) (fun _ => none) := by rw [shpV, h]; rfl
theorem shpV_dead {D N : Nat} {xs : List Tm} {k : Nat} (h : shpV D N xs k = none) : ∀ {m : Nat}, k ≤ m → shpV D N xs m = none
  | 0, hm => by obtain rfl : k = 0 := by omega
                exact h
  | m + 1, hm => by
    by_cases e : k = m + 1
    · subst e; exact h
    · rw [shpV, shpV_dead h (show k ≤ m by omega)]; rfl
theorem shpV_good {D N : Nat} (hD : D ≤ 3) (hN : N ≤ 5) {xs : List Tm} (hx : ∀ t ∈ xs, wordB (D : Int) t.s.data.toList = true ∧ (t.s.size : Int) ≤ N) : ∀ {k : Nat} {p : VF}, shpV D N xs k = some p → GoodV (allW D N) p
  | 0, p, h => by rw [shpV] at h; injection h with h; rw [← h]; exact good_unitP D N
  | k + 1, p, h => by
    rw [shpV] at h
    obtain ⟨q, h1, h2⟩ := Option.bind_eq_some_iff.1 h
    exact GoodV.shAll hD hN (fun t ht => (hx t ht).1) (fun t ht => allW_B hD N t.s (termsOf_iff.1 ht).1) (GoodV.none _) h2
theorem made_oneP (w : World) (t : Tm) : Made (w.alloc (.cells #[.string t.s, .int .i64 t.n, .int .i64 t.d] 46)) w.heap.size 3 :=
  ⟨by simp, fun j hj => by
    have h : j = 0 ∨ j = 1 ∨ j = 2 := by omega
    rcases h with rfl | rfl | rfl <;> exact ⟨⟨_, by simp [go_sem]; rfl⟩, by simp⟩⟩
set_option maxHeartbeats 1000000 in
theorem l01OneP_c (d n : Int) (s : ByteArray) (w : World) : Calls Tryz.prog 20 #[.int .i64 d, .int .i64 n, .string s] w (SerOnly d n [⟨s, 1, 1⟩] w) := by
  go_enter Tryz.func20, Tryz.ntmps20
  go_wp2
  have ht := terms_one (w.alloc (.cells #[.int .i64 d, .int .i64 n, .slice (some ⟨w.heap.size + 1, 0, none⟩) 1 1] 24)) ⟨s, 1, 1⟩
  have hm := made_oneP (w.alloc (.cells #[.int .i64 d, .int .i64 n, .slice (some ⟨w.heap.size + 1, 0, none⟩) 1 1] 24)) ⟨s, 1, 1⟩
  simp only [World.size_alloc] at ht hm
  refine bodyPost_ret (v := .agg #[.int .i64 d, .int .i64 n, .slice (some ⟨w.heap.size + 1, 0, none⟩) 1 1]) (by simp [results, Tryz.results20, go_sem]) rfl ⟨_, _, rfl, by go_grown, ?_⟩
  exact NewRow.mono (.of_to (lo := w.heap.size + 1) (Nat.le_refl _) hm ht) (by omega) (Nat.le_refl _)

end Go.Proofs.YtdgkkcjjfpenpaaGreatDoor
