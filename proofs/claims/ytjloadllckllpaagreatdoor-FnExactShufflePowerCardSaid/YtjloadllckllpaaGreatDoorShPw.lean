/-
  Contracts of ShufflePower, of the program and of its model: both return the same series and code.
-/
import Derived.Test.YtjloadllckllpaaGreatDoorShSer
import Derived.Test.YtjloadllckllpaaGreatDoorUnitS
namespace Go.Proofs.YtjloadllckllpaaGreatDoor
open Go.RowKit
set_option linter.unusedVariables false

theorem GoodV.shPair {D N : Nat} (hD : D ≤ 3) (hN : N ≤ 5) {s t : Tm} (hs : wordB (D : Int) s.s.data.toList = true) (ht : wordB (D : Int) t.s.data.toList = true) {f h : VF} (hf : GoodV (allW D N) f) (e : shPair D N s t f = some h) : GoodV (allW D N) h := by
  unfold Go.Proofs.YtjloadllckllpaaGreatDoor.shPair at e
  split at e
  · split at e
    · rename_i hfit
      exact hf.shK (fun x hx => ((each_good hD hN hs ht hfit).1 x hx).1) e
    · injection e with e; rw [← e]; exact hf
  · cases e
theorem GoodV.shRow {D N : Nat} (hD : D ≤ 3) (hN : N ≤ 5) {s : Tm} (hs : wordB (D : Int) s.s.data.toList = true) : ∀ {ys : List Tm} {f h : VF}, (∀ t ∈ ys, wordB (D : Int) t.s.data.toList = true) → GoodV (allW D N) f → shRow D N s ys f = some h → GoodV (allW D N) h
  | [], f, h, _, hf, e => by
    unfold Go.Proofs.YtjloadllckllpaaGreatDoor.shRow at e
    injection e with e; rw [← e]; exact hf
  | t :: ys, f, h, hy, hf, e => by
    unfold Go.Proofs.YtjloadllckllpaaGreatDoor.shRow at e
    obtain ⟨f', h1, h2⟩ := Option.bind_eq_some_iff.1 e
    exact GoodV.shRow hD hN hs (fun u hu => hy u (List.mem_cons_of_mem _ hu)) (hf.shPair hD hN hs (hy t (List.mem_cons_self ..)) h1) h2
theorem GoodV.shAll {D N : Nat} (hD : D ≤ 3) (hN : N ≤ 5) {ys : List Tm} (hy : ∀ t ∈ ys, wordB (D : Int) t.s.data.toList = true) : ∀ {xs : List Tm} {f h : VF}, (∀ t ∈ xs, wordB (D : Int) t.s.data.toList = true) → GoodV (allW D N) f → shAll D N ys xs f = some h → GoodV (allW D N) h
  | [], f, h, _, hf, e => by
    unfold Go.Proofs.YtjloadllckllpaaGreatDoor.shAll at e
    injection e with e; rw [← e]; exact hf
  | s :: xs, f, h, hx, hf, e => by
    unfold Go.Proofs.YtjloadllckllpaaGreatDoor.shAll at e
    obtain ⟨f', h1, h2⟩ := Option.bind_eq_some_iff.1 e
    exact GoodV.shAll hD hN hy (fun u hu => hx u (List.mem_cons_of_mem _ hu)) (hf.shRow hD hN (hx s (List.mem_cons_self ..)) hy h1) h2
theorem good_unitP (D N : Nat) : GoodV (allW D N) unitF := fun s p h => by
  unfold unitF setF at h
  split at h
  · rename_i hs
    injection h with h
    subst h
    obtain ⟨r, e, _⟩ := allW_head D N
    exact ⟨by rw [e, hs]; simp, by decide, by decide⟩
  · cases h
/-- what a function comes to that returns a series of values, if all fits -/
def FitVp (D N : Nat) (r : Option VF) (W : World) (e : Ending) (w' : World) : Prop := match r with | none => SerPost 0 0 [] 3 W e w' | some h => SerPost D N (termsOf h (allW D N)) 0 W e w'
/-- the shuffle powers of a series -/
def shpV (D N : Nat) (xs : List Tm) : Nat → Option VF
  | 0 => some unitF
  | k + 1 => (shpV D N xs k).bind fun p => shAll D N xs (termsOf p (allW D N)) (fun _ => none)
theorem shpV_next {D N : Nat} {xs : List Tm} {p : VF} {k : Nat} (h : shpV D N xs k = some p) : shpV D N xs (k + 1) = shAll D N xs (termsOf p (allW D N)) (fun _ => none) := by rw [shpV, h]; rfl
theorem shpV_dead {D N : Nat} {xs : List Tm} {k : Nat} (h : shpV D N xs k = none) : ∀ {m : Nat}, k ≤ m → shpV D N xs m = none
  | 0, hm => by obtain rfl : k = 0 := by omega
                exact h
  | m + 1, hm => by
    by_cases e : k = m + 1
    · subst e; exact h
    · rw [shpV, shpV_dead h (show k ≤ m by omega)]; rfl
theorem shpV_good {D N : Nat} (hD : D ≤ 3) (hN : N ≤ 5) {xs : List Tm} (hx : ∀ t ∈ xs, wordB (D : Int) t.s.data.toList = true ∧ (t.s.size : Int) ≤ N) : ∀ {k : Nat} {p : VF}, shpV D N xs k = some p → GoodV (allW D N) p
  | 0, p, h => by rw [shpV] at h; injection h with h; rw [← h]; exact good_unitP D N
  | k + 1, p, h => by
    rw [shpV] at h
    obtain ⟨q, h1, h2⟩ := Option.bind_eq_some_iff.1 h
    exact GoodV.shAll hD hN (fun t ht => (hx t ht).1) (fun t ht => allW_B hD N t.s (termsOf_iff.1 ht).1) (GoodV.none _) h2
theorem made_oneP (w : World) (t : Tm) : Made (w.alloc (.cells #[.string t.s, .int .i64 t.n, .int .i64 t.d] 61)) w.heap.size 3 :=
  ⟨by simp, fun j hj => by
    have h : j = 0 ∨ j = 1 ∨ j = 2 := by omega
    rcases h with rfl | rfl | rfl <;> exact ⟨⟨_, by simp [go_sem]; rfl⟩, by simp⟩⟩
set_option maxHeartbeats 1000000 in
theorem l01OneP_c (d n : Int) (s : ByteArray) (w : World) : Calls Tryz.prog 31 #[.int .i64 d, .int .i64 n, .string s] w (SerOnly d n [⟨s, 1, 1⟩] w) := by
  go_enter Tryz.func31, Tryz.ntmps31
  go_wp2
  have ht := terms_one (w.alloc (.cells #[.int .i64 d, .int .i64 n, .slice (some ⟨w.heap.size + 1, 0, none⟩) 1 1] 28)) ⟨s, 1, 1⟩
  have hm := made_oneP (w.alloc (.cells #[.int .i64 d, .int .i64 n, .slice (some ⟨w.heap.size + 1, 0, none⟩) 1 1] 28)) ⟨s, 1, 1⟩
  simp only [World.size_alloc] at ht hm
  refine bodyPost_ret (v := .agg #[.int .i64 d, .int .i64 n, .slice (some ⟨w.heap.size + 1, 0, none⟩) 1 1]) (by simp [results, Tryz.results31, go_sem]) rfl ⟨_, _, rfl, by go_grown, ?_⟩
  exact NewRow.mono (.of_to (lo := w.heap.size + 1) (Nat.le_refl _) hm ht) (by omega) (Nat.le_refl _)

set_option maxRecDepth 100000 in
set_option maxHeartbeats 2000000 in
theorem sShp_1 (L V K : Int) (g1 : Nat) (xs : List Tm) (hl1 : xs.length ≤ 1048576) (hs1 : ∀ i (h : i < xs.length), (xs[i]).s.size ≤ maxLen) (h1 : serB L V xs = false) (w : World) (hb1 : g1 < w.heap.size) (t1 : TermsIn w g1 0 xs) :
    Calls Tryz.prog 15 #[.agg #[.int .i64 L, .int .i64 V, .slice (some ⟨g1, 0, none⟩) xs.length xs.length], .int .i64 K] w (SerPost 0 0 [] 1 w) := by
  have HT1 := Lib.hid t1
  have HS1 := Lib.hid hs1
  have HH := Lib.hid h1

  clear t1 hs1 h1
  go_enter Tryz.func15, Tryz.ntmps15
  go_wp2_with fail
  refine (l01Is_c L V g1 0 _ xs hl1 HS1.out _ (by simp; omega) (HT1.out.below (below2 w _ _) hb1)).mono ?_
  rw [HH.out]
  rintro e w1 ⟨rfl, hb⟩
  have hB := hb
  simp only [World.size_alloc] at hB
  have bc := bcellB hB
  have r0 : w1.cell? ⟨w.heap.size + 1, 0, none⟩ = some (.int .i64 0) := (bc.1 _ _ (by omega)).trans (by go_simp)
  have r1 : w1.cell? ⟨w.heap.size + 1, 1, none⟩ = some (.int .i64 0) := (bc.1 _ _ (by omega)).trans (by go_simp)
  have r2 : w1.cell? ⟨w.heap.size + 1, 2, none⟩ = some (.slice none 0 0) := (bc.1 _ _ (by omega)).trans (by go_simp)
  have z0 : w1.frozen? ⟨w.heap.size + 1, 0, none⟩ = false := (bc.2 _ _ (by omega)).trans (by go_simp)
  have z1 : w1.frozen? ⟨w.heap.size + 1, 1, none⟩ = false := (bc.2 _ _ (by omega)).trans (by go_simp)
  have z2 : w1.frozen? ⟨w.heap.size + 1, 2, none⟩ = false := (bc.2 _ _ (by omega)).trans (by go_simp)

  have HW := Lib.hid ((below2 w _ _).trans (hB.mono (by omega)))
  have hz : w.heap.size + 1 < w1.heap.size := by have := hB.size; simp at this; omega
  clear bc hB hb
  go_wp2
  refine bodyPost_ret (v := .tuple #[.agg #[.int .i64 0, .int .i64 0, .slice none 0 0], .int .i64 1]) (by simp [results, Tryz.results15, go_sem, r0, r1, r2]) rfl (SerPost.err 1 rfl ?_)
  have hW := HW.out
  go_grown

set_option maxRecDepth 100000 in
set_option maxHeartbeats 2000000 in
theorem sShp_2 (L V K : Int) (g1 : Nat) (xs : List Tm) (hl1 : xs.length ≤ 1048576) (hs1 : ∀ i (h : i < xs.length), (xs[i]).s.size ≤ maxLen) (h1 : serB L V xs = true) (hK : inB K 0 8 = false) (w : World) (hb1 : g1 < w.heap.size) (t1 : TermsIn w g1 0 xs) :
    Calls Tryz.prog 15 #[.agg #[.int .i64 L, .int .i64 V, .slice (some ⟨g1, 0, none⟩) xs.length xs.length], .int .i64 K] w (SerPost 0 0 [] 2 w) := by
  have HT1 := Lib.hid t1
  have HS1 := Lib.hid hs1
  have HH := Lib.hid h1
  have HK := Lib.hid hK
  clear t1 hs1 h1 hK
  go_enter Tryz.func15, Tryz.ntmps15
  go_wp2_with fail
  refine (l01Is_c L V g1 0 _ xs hl1 HS1.out _ (by simp; omega) (HT1.out.below (below2 w _ _) hb1)).mono ?_
  rw [HH.out]
  rintro e w1 ⟨rfl, hb⟩
  have hB := hb
  simp only [World.size_alloc] at hB
  have bc := bcellB hB
  have r0 : w1.cell? ⟨w.heap.size + 1, 0, none⟩ = some (.int .i64 0) := (bc.1 _ _ (by omega)).trans (by go_simp)
  have r1 : w1.cell? ⟨w.heap.size + 1, 1, none⟩ = some (.int .i64 0) := (bc.1 _ _ (by omega)).trans (by go_simp)
  have r2 : w1.cell? ⟨w.heap.size + 1, 2, none⟩ = some (.slice none 0 0) := (bc.1 _ _ (by omega)).trans (by go_simp)
  have z0 : w1.frozen? ⟨w.heap.size + 1, 0, none⟩ = false := (bc.2 _ _ (by omega)).trans (by go_simp)
  have z1 : w1.frozen? ⟨w.heap.size + 1, 1, none⟩ = false := (bc.2 _ _ (by omega)).trans (by go_simp)
  have z2 : w1.frozen? ⟨w.heap.size + 1, 2, none⟩ = false := (bc.2 _ _ (by omega)).trans (by go_simp)

  have HW := Lib.hid ((below2 w _ _).trans (hB.mono (by omega)))
  have hz : w.heap.size + 1 < w1.heap.size := by have := hB.size; simp at this; omega
  clear bc hB hb
  go_wp2_with (first | (go_at_call 30; refine (l01In_c _ _ _ _).mono ?_; rw [HK.out]; rintro e w' ⟨rfl, rfl⟩) | fail)
  refine bodyPost_ret (v := .tuple #[.agg #[.int .i64 0, .int .i64 0, .slice none 0 0], .int .i64 2]) (by simp [results, Tryz.results15, go_sem, r0, r1, r2]) rfl (SerPost.err 2 rfl ?_)
  have hW := HW.out
  go_grown

set_option maxRecDepth 100000 in
set_option maxHeartbeats 2000000 in
theorem iShp_1 (L V K : Int) (g1 : Nat) (xs : List Tm) (hl1 : xs.length ≤ 1048576) (hs1 : ∀ i (h : i < xs.length), (xs[i]).s.size ≤ maxLen) (h1 : serB L V xs = false) (w : World) (hb1 : g1 < w.heap.size) (t1 : TermsIn w g1 0 xs) :
    Calls Tryz.prog 16 #[.agg #[.int .i64 L, .int .i64 V, .slice (some ⟨g1, 0, none⟩) xs.length xs.length], .int .i64 K] w (SerPost 0 0 [] 1 w) := by
  have HT1 := Lib.hid t1
  have HS1 := Lib.hid hs1
  have HH := Lib.hid h1

  clear t1 hs1 h1
  go_enter Tryz.func16, Tryz.ntmps16
  go_wp2_with fail
  refine (iIsSeries_c L V g1 0 _ xs hl1 HS1.out _ (by simp; omega) (HT1.out.below (below2 w _ _) hb1)).mono ?_
  rw [HH.out]
  rintro e w1 ⟨rfl, hb⟩
  have hB := hb
  simp only [World.size_alloc] at hB
  have bc := bcellB hB
  have r0 : w1.cell? ⟨w.heap.size + 1, 0, none⟩ = some (.int .i64 0) := (bc.1 _ _ (by omega)).trans (by go_simp)
  have r1 : w1.cell? ⟨w.heap.size + 1, 1, none⟩ = some (.int .i64 0) := (bc.1 _ _ (by omega)).trans (by go_simp)
  have r2 : w1.cell? ⟨w.heap.size + 1, 2, none⟩ = some (.slice none 0 0) := (bc.1 _ _ (by omega)).trans (by go_simp)
  have z0 : w1.frozen? ⟨w.heap.size + 1, 0, none⟩ = false := (bc.2 _ _ (by omega)).trans (by go_simp)
  have z1 : w1.frozen? ⟨w.heap.size + 1, 1, none⟩ = false := (bc.2 _ _ (by omega)).trans (by go_simp)
  have z2 : w1.frozen? ⟨w.heap.size + 1, 2, none⟩ = false := (bc.2 _ _ (by omega)).trans (by go_simp)

  have HW := Lib.hid ((below2 w _ _).trans (hB.mono (by omega)))
  have hz : w.heap.size + 1 < w1.heap.size := by have := hB.size; simp at this; omega
  clear bc hB hb
  go_wp2
  refine bodyPost_ret (v := .tuple #[.agg #[.int .i64 0, .int .i64 0, .slice none 0 0], .int .i64 1]) (by simp [results, Tryz.results16, go_sem, r0, r1, r2]) rfl (SerPost.err 1 rfl ?_)
  have hW := HW.out
  go_grown

set_option maxRecDepth 100000 in
set_option maxHeartbeats 2000000 in
theorem iShp_2 (L V K : Int) (g1 : Nat) (xs : List Tm) (hl1 : xs.length ≤ 1048576) (hs1 : ∀ i (h : i < xs.length), (xs[i]).s.size ≤ maxLen) (h1 : serB L V xs = true) (hK : inB K 0 8 = false) (w : World) (hb1 : g1 < w.heap.size) (t1 : TermsIn w g1 0 xs) :
    Calls Tryz.prog 16 #[.agg #[.int .i64 L, .int .i64 V, .slice (some ⟨g1, 0, none⟩) xs.length xs.length], .int .i64 K] w (SerPost 0 0 [] 2 w) := by
  have HT1 := Lib.hid t1
  have HS1 := Lib.hid hs1
  have HH := Lib.hid h1
  have HK := Lib.hid hK
  clear t1 hs1 h1 hK
  go_enter Tryz.func16, Tryz.ntmps16
  go_wp2_with fail
  refine (iIsSeries_c L V g1 0 _ xs hl1 HS1.out _ (by simp; omega) (HT1.out.below (below2 w _ _) hb1)).mono ?_
  rw [HH.out]
  rintro e w1 ⟨rfl, hb⟩
  have hB := hb
  simp only [World.size_alloc] at hB
  have bc := bcellB hB
  have r0 : w1.cell? ⟨w.heap.size + 1, 0, none⟩ = some (.int .i64 0) := (bc.1 _ _ (by omega)).trans (by go_simp)
  have r1 : w1.cell? ⟨w.heap.size + 1, 1, none⟩ = some (.int .i64 0) := (bc.1 _ _ (by omega)).trans (by go_simp)
  have r2 : w1.cell? ⟨w.heap.size + 1, 2, none⟩ = some (.slice none 0 0) := (bc.1 _ _ (by omega)).trans (by go_simp)
  have z0 : w1.frozen? ⟨w.heap.size + 1, 0, none⟩ = false := (bc.2 _ _ (by omega)).trans (by go_simp)
  have z1 : w1.frozen? ⟨w.heap.size + 1, 1, none⟩ = false := (bc.2 _ _ (by omega)).trans (by go_simp)
  have z2 : w1.frozen? ⟨w.heap.size + 1, 2, none⟩ = false := (bc.2 _ _ (by omega)).trans (by go_simp)

  have HW := Lib.hid ((below2 w _ _).trans (hB.mono (by omega)))
  have hz : w.heap.size + 1 < w1.heap.size := by have := hB.size; simp at this; omega
  clear bc hB hb
  go_wp2_with (first | (go_at_call 33; refine (isBetween_c _ _ _ _).mono ?_; rw [HK.out]; rintro e w' ⟨rfl, rfl⟩) | fail)
  refine bodyPost_ret (v := .tuple #[.agg #[.int .i64 0, .int .i64 0, .slice none 0 0], .int .i64 2]) (by simp [results, Tryz.results16, go_sem, r0, r1, r2]) rfl (SerPost.err 2 rfl ?_)
  have hW := HW.out
  go_grown

set_option maxRecDepth 100000 in
set_option maxHeartbeats 8000000 in
theorem sShp_3 (D N K : Nat) (g1 : Nat) (xs : List Tm) (hl1 : xs.length ≤ 1048576) (hs1 : ∀ i (h : i < xs.length), (xs[i]).s.size ≤ maxLen) (h1 : serB D N xs = true) (hK : K ≤ 8) (w : World) (hb1 : g1 < w.heap.size) (t1 : TermsIn w g1 0 xs) :
    Calls Tryz.prog 15 #[.agg #[.int .i64 D, .int .i64 N, .slice (some ⟨g1, 0, none⟩) xs.length xs.length], .int .i64 K] w (FitVp D N (shpV D N xs K) w) := by
  have hsh : shapeB (D : Int) (N : Int) = true := by unfold serB at h1; rw [Bool.and_eq_true] at h1; exact h1.1
  have hDN := shape_out hsh
  have HGd := Lib.hid (fun j p => shpV_good (D := D) (N := N) (by omega) (by omega) (ser_wordB h1) (k := j) (p := p))
  have HT1 := Lib.hid t1
  have HS1 := Lib.hid hs1
  have HH := Lib.hid h1
  have HKb := Lib.hid (show inB (K : Int) 0 8 = true from inB_yes (by omega))
  have hfew := allW_few (D := D) (by omega) (n := N) (by omega)
  have HTm := Lib.hid (fun a1 c1 f (hf : GoodV (allW D N) f) W r1 r2 => l03Shuffle_c D N (by omega) (by omega) a1 (some ⟨g1, 0, none⟩) c1 xs.length (termsOf f (allW D N)) xs (ser_terms hsh hf) h1 (by have := termsOf_few f (allW D N); omega) hl1 W r1 r2)
  clear t1 hs1 h1 hsh
  go_enter Tryz.func15, Tryz.ntmps15
  go_wp2_with fail
  refine (l01Is_c D N g1 0 _ xs hl1 HS1.out _ (by simp; omega) (HT1.out.below (below2 w _ _) hb1)).mono ?_
  rw [HH.out]
  rintro e w1 ⟨rfl, hb⟩
  have HB := Lib.hid (show Below (w.heap.size + 1 + 1) ((w.alloc (.cells #[.int .i64 D, .int .i64 N, .slice (some ⟨g1, 0, none⟩) xs.length xs.length] 28)).alloc (.cells #[.int .i64 0, .int .i64 0, .slice none 0 0] 28)) w1 from by simpa using hb)
  have hz1 : w.heap.size + 1 + 1 ≤ w1.heap.size := by have := HB.out.size; simp at this; omega
  have bc := bcellB HB.out
  have x0 : w1.cell? ⟨w.heap.size, 0, none⟩ = some (.int .i64 D) := (bc.1 _ _ (by omega)).trans (by go_simp)
  have x1 : w1.cell? ⟨w.heap.size, 1, none⟩ = some (.int .i64 N) := (bc.1 _ _ (by omega)).trans (by go_simp)
  have x2 : w1.cell? ⟨w.heap.size, 2, none⟩ = some (.slice (some ⟨g1, 0, none⟩) xs.length xs.length) := (bc.1 _ _ (by omega)).trans (by go_simp)
  clear hb bc
  go_wp2_with (first | (go_at_call 30; refine (l01In_c _ _ _ _).mono ?_; rw [HKb.out]; rintro e w' ⟨rfl, rfl⟩) | fail)
  refine (l01OneP_c D N _ _).mono ?_
  rintro e w2 ⟨a2, c2, rfl, hb2, hN2⟩
  have HB2 := Lib.hid (HB.out.trans (hb2.mono hz1))
  have hz2 := hb2.size
  have HR2 := Lib.hid ((hN2.below (below1 w2 (.cells #[.int .i64 D, .int .i64 N, .slice a2 1 c2] 28)) (Nat.le_refl _)).mono hz1 (show w2.heap.size ≤ (w2.alloc (.cells #[.int .i64 D, .int .i64 N, .slice a2 1 c2] 28)).heap.size by simp))
  have hu := unit_terms D N
  have HU := Lib.hid hu
  clear hb2 hN2 x0 x1 x2 hu
  go_wp2_with fail
  go_loopw [1] (fun v1 wr => ∃ (j : Nat) (a : Option Addr) (l c : Nat) (h : VF), j ≤ K ∧ v1 = .int .i64 ((K : Int) - j) ∧ shpV D N xs j = some h ∧ l = (termsOf h (allW D N)).length ∧ NewRow (w.heap.size + 1 + 1) wr.heap.size wr a (termsOf h (allW D N)) ∧ Blk wr w2.heap.size 28 #[.int .i64 D, .int .i64 N, .slice a l c] ∧ Below (w.heap.size + 1 + 1) ((w.alloc (.cells #[.int .i64 D, .int .i64 N, .slice (some ⟨g1, 0, none⟩) xs.length xs.length] 28)).alloc (.cells #[.int .i64 0, .int .i64 0, .slice none 0 0] 28)) wr) (fun v1 _ => (intOf v1).toNat)
  case atStart => exact ⟨0, a2, 1, c2, unitF, Nat.zero_le _, by simp, rfl, by rw [HU.out]; rfl, by rw [HU.out]; exact HR2.out, Blk.new _ _ _, HB2.out.alloc (by omega) _⟩
  case round =>
    obtain ⟨j, a, l, c, h, hj, rfl, hp, hl, hR, hBl, hB⟩ := hrel
    have HP := Lib.hid hp
    have HL := Lib.hid hl
    have HR := Lib.hid hR
    have HBl := Lib.hid hBl
    have HBk := Lib.hid hB
    have hzn := hBl.lt
    have hzr := hB.size
    simp only [World.size_alloc] at hzr
    have bc := bcellB hB
    have x0 : wr.cell? ⟨w.heap.size, 0, none⟩ = some (.int .i64 D) := (bc.1 _ _ (by omega)).trans (by go_simp)
    have x1 : wr.cell? ⟨w.heap.size, 1, none⟩ = some (.int .i64 N) := (bc.1 _ _ (by omega)).trans (by go_simp)
    have x2 : wr.cell? ⟨w.heap.size, 2, none⟩ = some (.slice (some ⟨g1, 0, none⟩) xs.length xs.length) := (bc.1 _ _ (by omega)).trans (by go_simp)
    have n0 : wr.cell? ⟨w2.heap.size, 0, none⟩ = some (.int .i64 D) := hBl.cell 0
    have n1 : wr.cell? ⟨w2.heap.size, 1, none⟩ = some (.int .i64 N) := hBl.cell 1
    have n2 : wr.cell? ⟨w2.heap.size, 2, none⟩ = some (.slice a l c) := hBl.cell 2
    have HW := Lib.hid ((below2 w (.cells #[.int .i64 D, .int .i64 N, .slice (some ⟨g1, 0, none⟩) xs.length xs.length] 28) (.cells #[.int .i64 0, .int .i64 0, .slice none 0 0] 28)).trans (hB.mono (by omega)))
    subst hl
    clear hp hR hBl hB
    by_cases hjK : j < K
    · have hpos : (0 : Int) < (K : Int) - j := by omega
      have HT := Lib.hid (HTm.out a c h (HGd.out _ _ HP.out) wr HR.out.row (.inr ⟨g1, 0, rfl, by have := HW.out.size; omega, HT1.out.below HW.out hb1⟩))
      have HNx := Lib.hid (shpV_next HP.out)
      have HDd := Lib.hid (fun e => shpV_dead (D := D) (N := N) (xs := xs) (k := j + 1) e hjK)
      clear bc
      go_wp2_with fail
      refine HT.out.mono ?_
      clear x0 x1 x2 n0 n1 n2
      cases hv : shAll D N xs (termsOf h (allW D N)) (fun _ => none) with
      | none =>
        rintro e w3 ⟨rfl, hb3⟩
        have HB3 := Lib.hid (HBk.out.trans (hb3.mono hzr))
        have hz3 : w.heap.size + 1 < w3.heap.size := by have := hb3.size; omega
        have HDn := Lib.hid (HDd.out (HNx.out.trans hv))
        have bc := bcellB HB3.out
        have r0 : w3.cell? ⟨w.heap.size + 1, 0, none⟩ = some (.int .i64 0) := (bc.1 _ _ (by omega)).trans (by go_simp)
        have r1 : w3.cell? ⟨w.heap.size + 1, 1, none⟩ = some (.int .i64 0) := (bc.1 _ _ (by omega)).trans (by go_simp)
        have r2 : w3.cell? ⟨w.heap.size + 1, 2, none⟩ = some (.slice none 0 0) := (bc.1 _ _ (by omega)).trans (by go_simp)
        have z0 : w3.frozen? ⟨w.heap.size + 1, 0, none⟩ = false := (bc.2 _ _ (by omega)).trans (by go_simp)
        have z1 : w3.frozen? ⟨w.heap.size + 1, 1, none⟩ = false := (bc.2 _ _ (by omega)).trans (by go_simp)
        have z2 : w3.frozen? ⟨w.heap.size + 1, 2, none⟩ = false := (bc.2 _ _ (by omega)).trans (by go_simp)
        have HW3 := Lib.hid ((below2 w (.cells #[.int .i64 D, .int .i64 N, .slice (some ⟨g1, 0, none⟩) xs.length xs.length] 28) (.cells #[.int .i64 0, .int .i64 0, .slice none 0 0] 28)).trans (HB3.out.mono (by omega)))
        clear bc hb3 hv
        go_wp2
        rw [HDn.out]
        refine bodyPost_ret (v := .tuple #[.agg #[.int .i64 0, .int .i64 0, .slice none 0 0], .int .i64 3]) (by simp [results, Tryz.results15, go_sem, r0, r1, r2, hz3]) rfl (SerPost.err 3 rfl ?_)
        have hW := HW3.out
        go_grown
      | some h' =>
        rintro e w3 ⟨a3, c3, rfl, hb3, hN3⟩
        have HB3 := Lib.hid (HBk.out.trans (hb3.mono hzr))
        have hz3 := hb3.size
        have HBl3 := Lib.hid (((((HBl.out.below hb3 hzn).set_ 0 (.int .i64 D)).set_ 1 (.int .i64 N)).set_ 2 (.slice a3 (termsOf h' (allW D N)).length c3)).alloc (.cells #[.int .i64 D, .int .i64 N, .slice a3 (termsOf h' (allW D N)).length c3] 28))
        have HP3 := Lib.hid (HNx.out.trans hv)
        have HR3 := Lib.hid ((((hN3.far1s (n := w2.heap.size) (i := 0) (x := .int .i64 D) hzn).far1s (n := w2.heap.size) (i := 1) (x := .int .i64 N) hzn).far1s (n := w2.heap.size) (i := 2) (x := .slice a3 (termsOf h' (allW D N)).length c3) hzn).below (below1 _ (.cells #[.int .i64 D, .int .i64 N, .slice a3 (termsOf h' (allW D N)).length c3] 28)) (by simp))
        have hzn3 : w2.heap.size < w3.heap.size := by omega
        have p0 : w3.cell? ⟨w2.heap.size, 0, none⟩ = some (.int .i64 D) := (hb3.cell (p := ⟨w2.heap.size, 0, none⟩) hzn).trans (HBl.out.cell 0)
        have p1 : w3.cell? ⟨w2.heap.size, 1, none⟩ = some (.int .i64 N) := (hb3.cell (p := ⟨w2.heap.size, 1, none⟩) hzn).trans (HBl.out.cell 1)
        have p2 : w3.cell? ⟨w2.heap.size, 2, none⟩ = some (.slice a (termsOf h (allW D N)).length c) := (hb3.cell (p := ⟨w2.heap.size, 2, none⟩) hzn).trans (HBl.out.cell 2)
        have q0 : w3.frozen? ⟨w2.heap.size, 0, none⟩ = false := (hb3.frozen (p := ⟨w2.heap.size, 0, none⟩) hzn).trans (HBl.out.frozen 0)
        have q1 : w3.frozen? ⟨w2.heap.size, 1, none⟩ = false := (hb3.frozen (p := ⟨w2.heap.size, 1, none⟩) hzn).trans (HBl.out.frozen 1)
        have q2 : w3.frozen? ⟨w2.heap.size, 2, none⟩ = false := (hb3.frozen (p := ⟨w2.heap.size, 2, none⟩) hzn).trans (HBl.out.frozen 2)
        clear hb3 hv hN3
        go_wp2
        go_roundw
        case rel =>
          refine ⟨j + 1, a3, (termsOf h' (allW D N)).length, c3, h', hjK, by first | rfl | (congr 1; omega) | go_num, HP3.out, rfl, ?_, ?_, ?_⟩
          · exact HR3.out.mono (by omega) (by simp)
          · exact HBl3.out
          · exact (((HB3.out.setCell (p := ⟨w2.heap.size, 0, none⟩) (by show _ ≤ w2.heap.size; omega) _).setCell (p := ⟨w2.heap.size, 1, none⟩) (by show _ ≤ w2.heap.size; omega) _).setCell (p := ⟨w2.heap.size, 2, none⟩) (by show _ ≤ w2.heap.size; omega) _).alloc (by simp; omega) _
        case measure => simp [intOf]; omega
    · obtain rfl : j = K := by omega
      have hnn : ¬ (0 : Int) < (j : Int) - j := by omega
      have r0 : wr.cell? ⟨w.heap.size + 1, 0, none⟩ = some (.int .i64 0) := (bc.1 _ _ (by omega)).trans (by go_simp)
      have r1 : wr.cell? ⟨w.heap.size + 1, 1, none⟩ = some (.int .i64 0) := (bc.1 _ _ (by omega)).trans (by go_simp)
      have r2 : wr.cell? ⟨w.heap.size + 1, 2, none⟩ = some (.slice none 0 0) := (bc.1 _ _ (by omega)).trans (by go_simp)
      have z0 : wr.frozen? ⟨w.heap.size + 1, 0, none⟩ = false := (bc.2 _ _ (by omega)).trans (by go_simp)
      have z1 : wr.frozen? ⟨w.heap.size + 1, 1, none⟩ = false := (bc.2 _ _ (by omega)).trans (by go_simp)
      have z2 : wr.frozen? ⟨w.heap.size + 1, 2, none⟩ = false := (bc.2 _ _ (by omega)).trans (by go_simp)
      clear bc x0 x1 x2
      go_wp2
      rw [HP.out]
      refine bodyPost_ret (v := .tuple #[.agg #[.int .i64 D, .int .i64 N, .slice a (termsOf h (allW D N)).length c], .int .i64 0]) (by simp [results, Tryz.results15, go_sem, r0, r1, r2]) rfl ⟨a, c, rfl, ?_, ?_⟩
      · have hW := HW.out
        go_grown
      · exact (((HR.out.far1s (n := w.heap.size + 1) (i := 0) (x := .int .i64 D) (by omega)).far1s (n := w.heap.size + 1) (i := 1) (x := .int .i64 N) (by omega)).far1s (n := w.heap.size + 1) (i := 2) (x := .slice a (termsOf h (allW D N)).length c) (by omega)).mono (by omega) (by simp)


set_option maxRecDepth 100000 in
set_option maxHeartbeats 8000000 in
theorem iShp_3 (D N K : Nat) (g1 : Nat) (xs : List Tm) (hl1 : xs.length ≤ 1048576) (hs1 : ∀ i (h : i < xs.length), (xs[i]).s.size ≤ maxLen) (h1 : serB D N xs = true) (hK : K ≤ 8) (w : World) (hb1 : g1 < w.heap.size) (t1 : TermsIn w g1 0 xs) :
    Calls Tryz.prog 16 #[.agg #[.int .i64 D, .int .i64 N, .slice (some ⟨g1, 0, none⟩) xs.length xs.length], .int .i64 K] w (FitVp D N (shpV D N xs K) w) := by
  have hsh : shapeB (D : Int) (N : Int) = true := by unfold serB at h1; rw [Bool.and_eq_true] at h1; exact h1.1
  have hDN := shape_out hsh
  have HGd := Lib.hid (fun j p => shpV_good (D := D) (N := N) (by omega) (by omega) (ser_wordB h1) (k := j) (p := p))
  have HT1 := Lib.hid t1
  have HS1 := Lib.hid hs1
  have HH := Lib.hid h1
  have HKb := Lib.hid (show inB (K : Int) 0 8 = true from inB_yes (by omega))
  have hfew := allW_few (D := D) (by omega) (n := N) (by omega)
  have HTm := Lib.hid (fun a1 c1 f (hf : GoodV (allW D N) f) W r1 r2 => sums_c D N (by omega) (by omega) a1 (some ⟨g1, 0, none⟩) c1 xs.length (termsOf f (allW D N)) xs (ser_terms hsh hf) h1 (by have := termsOf_few f (allW D N); omega) hl1 W r1 r2)
  have HSh := Lib.hid hsh
  clear t1 hs1 h1 hsh
  go_enter Tryz.func16, Tryz.ntmps16
  go_wp2_with fail
  refine (iIsSeries_c D N g1 0 _ xs hl1 HS1.out _ (by simp; omega) (HT1.out.below (below2 w _ _) hb1)).mono ?_
  rw [HH.out]
  rintro e w1 ⟨rfl, hb⟩
  have HB := Lib.hid (show Below (w.heap.size + 1 + 1) ((w.alloc (.cells #[.int .i64 D, .int .i64 N, .slice (some ⟨g1, 0, none⟩) xs.length xs.length] 28)).alloc (.cells #[.int .i64 0, .int .i64 0, .slice none 0 0] 28)) w1 from by simpa using hb)
  have hz1 : w.heap.size + 1 + 1 ≤ w1.heap.size := by have := HB.out.size; simp at this; omega
  have bc := bcellB HB.out
  have x0 : w1.cell? ⟨w.heap.size, 0, none⟩ = some (.int .i64 D) := (bc.1 _ _ (by omega)).trans (by go_simp)
  have x1 : w1.cell? ⟨w.heap.size, 1, none⟩ = some (.int .i64 N) := (bc.1 _ _ (by omega)).trans (by go_simp)
  have x2 : w1.cell? ⟨w.heap.size, 2, none⟩ = some (.slice (some ⟨g1, 0, none⟩) xs.length xs.length) := (bc.1 _ _ (by omega)).trans (by go_simp)
  clear hb bc
  go_wp2_with (first | (go_at_call 33; refine (isBetween_c _ _ _ _).mono ?_; rw [HKb.out]; rintro e w' ⟨rfl, rfl⟩) | fail)
  refine (iUnit_2 D N _ HSh.out).mono ?_
  rintro e w2 ⟨a2, c2, rfl, hb2, hN2⟩
  have HB2 := Lib.hid (HB.out.trans (hb2.mono hz1))
  have hz2 := hb2.size
  have HR2 := Lib.hid ((hN2.below (below1 w2 (.cells #[.int .i64 D, .int .i64 N, .slice a2 1 c2] 28)) (Nat.le_refl _)).mono hz1 (show w2.heap.size ≤ (w2.alloc (.cells #[.int .i64 D, .int .i64 N, .slice a2 1 c2] 28)).heap.size by simp))
  have hu := unit_terms D N
  have HU := Lib.hid hu
  clear hb2 hN2 x0 x1 x2 hu
  go_wp2_with fail
  go_loopw [25] (fun v1 wr => ∃ (j : Nat) (a : Option Addr) (l c : Nat) (h : VF), j ≤ K ∧ v1 = .int .i64 j ∧ shpV D N xs j = some h ∧ l = (termsOf h (allW D N)).length ∧ NewRow (w.heap.size + 1 + 1) wr.heap.size wr a (termsOf h (allW D N)) ∧ Blk wr w2.heap.size 28 #[.int .i64 D, .int .i64 N, .slice a l c] ∧ Below (w.heap.size + 1 + 1) ((w.alloc (.cells #[.int .i64 D, .int .i64 N, .slice (some ⟨g1, 0, none⟩) xs.length xs.length] 28)).alloc (.cells #[.int .i64 0, .int .i64 0, .slice none 0 0] 28)) wr) (fun v1 _ => K - (intOf v1).toNat)
  case atStart => exact ⟨0, a2, 1, c2, unitF, Nat.zero_le _, by simp, rfl, by rw [HU.out]; rfl, by rw [HU.out]; exact HR2.out, Blk.new _ _ _, HB2.out.alloc (by omega) _⟩
  case round =>
    obtain ⟨j, a, l, c, h, hj, rfl, hp, hl, hR, hBl, hB⟩ := hrel
    have HP := Lib.hid hp
    have HL := Lib.hid hl
    have HR := Lib.hid hR
    have HBl := Lib.hid hBl
    have HBk := Lib.hid hB
    have hzn := hBl.lt
    have hzr := hB.size
    simp only [World.size_alloc] at hzr
    have bc := bcellB hB
    have x0 : wr.cell? ⟨w.heap.size, 0, none⟩ = some (.int .i64 D) := (bc.1 _ _ (by omega)).trans (by go_simp)
    have x1 : wr.cell? ⟨w.heap.size, 1, none⟩ = some (.int .i64 N) := (bc.1 _ _ (by omega)).trans (by go_simp)
    have x2 : wr.cell? ⟨w.heap.size, 2, none⟩ = some (.slice (some ⟨g1, 0, none⟩) xs.length xs.length) := (bc.1 _ _ (by omega)).trans (by go_simp)
    have n0 : wr.cell? ⟨w2.heap.size, 0, none⟩ = some (.int .i64 D) := hBl.cell 0
    have n1 : wr.cell? ⟨w2.heap.size, 1, none⟩ = some (.int .i64 N) := hBl.cell 1
    have n2 : wr.cell? ⟨w2.heap.size, 2, none⟩ = some (.slice a l c) := hBl.cell 2
    have HW := Lib.hid ((below2 w (.cells #[.int .i64 D, .int .i64 N, .slice (some ⟨g1, 0, none⟩) xs.length xs.length] 28) (.cells #[.int .i64 0, .int .i64 0, .slice none 0 0] 28)).trans (hB.mono (by omega)))
    subst hl
    clear hp hR hBl hB
    by_cases hjK : j < K
    · have hpos : (j : Int) < (K : Int) := by omega
      have HT := Lib.hid (HTm.out a c h (HGd.out _ _ HP.out) wr HR.out.row (.inr ⟨g1, 0, rfl, by have := HW.out.size; omega, HT1.out.below HW.out hb1⟩))
      have HNx := Lib.hid (shpV_next HP.out)
      have HDd := Lib.hid (fun e => shpV_dead (D := D) (N := N) (xs := xs) (k := j + 1) e hjK)
      clear bc
      go_wp2_with fail
      refine HT.out.mono ?_
      clear x0 x1 x2 n0 n1 n2
      cases hv : shAll D N xs (termsOf h (allW D N)) (fun _ => none) with
      | none =>
        rintro e w3 ⟨a3, c3, rfl, hb3, hN3⟩
        have HB3 := Lib.hid (HBk.out.trans (hb3.mono hzr))
        have hz3 : w.heap.size + 1 < w3.heap.size := by have := hb3.size; omega
        have hzn3 : w2.heap.size < w3.heap.size := by have := hb3.size; omega
        have p0 : w3.cell? ⟨w2.heap.size, 0, none⟩ = some (.int .i64 D) := (hb3.cell (p := ⟨w2.heap.size, 0, none⟩) hzn).trans (HBl.out.cell 0)
        have p1 : w3.cell? ⟨w2.heap.size, 1, none⟩ = some (.int .i64 N) := (hb3.cell (p := ⟨w2.heap.size, 1, none⟩) hzn).trans (HBl.out.cell 1)
        have p2 : w3.cell? ⟨w2.heap.size, 2, none⟩ = some (.slice a (termsOf h (allW D N)).length c) := (hb3.cell (p := ⟨w2.heap.size, 2, none⟩) hzn).trans (HBl.out.cell 2)
        have q0 : w3.frozen? ⟨w2.heap.size, 0, none⟩ = false := (hb3.frozen (p := ⟨w2.heap.size, 0, none⟩) hzn).trans (HBl.out.frozen 0)
        have q1 : w3.frozen? ⟨w2.heap.size, 1, none⟩ = false := (hb3.frozen (p := ⟨w2.heap.size, 1, none⟩) hzn).trans (HBl.out.frozen 1)
        have q2 : w3.frozen? ⟨w2.heap.size, 2, none⟩ = false := (hb3.frozen (p := ⟨w2.heap.size, 2, none⟩) hzn).trans (HBl.out.frozen 2)
        have HDn := Lib.hid (HDd.out (HNx.out.trans hv))
        have bc := bcellB HB3.out
        have r0 : w3.cell? ⟨w.heap.size + 1, 0, none⟩ = some (.int .i64 0) := (bc.1 _ _ (by omega)).trans (by go_simp)
        have r1 : w3.cell? ⟨w.heap.size + 1, 1, none⟩ = some (.int .i64 0) := (bc.1 _ _ (by omega)).trans (by go_simp)
        have r2 : w3.cell? ⟨w.heap.size + 1, 2, none⟩ = some (.slice none 0 0) := (bc.1 _ _ (by omega)).trans (by go_simp)
        have z0 : w3.frozen? ⟨w.heap.size + 1, 0, none⟩ = false := (bc.2 _ _ (by omega)).trans (by go_simp)
        have z1 : w3.frozen? ⟨w.heap.size + 1, 1, none⟩ = false := (bc.2 _ _ (by omega)).trans (by go_simp)
        have z2 : w3.frozen? ⟨w.heap.size + 1, 2, none⟩ = false := (bc.2 _ _ (by omega)).trans (by go_simp)
        have HW3 := Lib.hid ((below2 w (.cells #[.int .i64 D, .int .i64 N, .slice (some ⟨g1, 0, none⟩) xs.length xs.length] 28) (.cells #[.int .i64 0, .int .i64 0, .slice none 0 0] 28)).trans (HB3.out.mono (by omega)))
        clear bc hb3 hv hN3
        go_wp2
        rw [HDn.out]
        refine bodyPost_ret (v := .tuple #[.agg #[.int .i64 0, .int .i64 0, .slice none 0 0], .int .i64 3]) (by simp [results, Tryz.results16, go_sem, r0, r1, r2]) rfl (SerPost.err 3 rfl ?_)
        have hW := HW3.out
        go_grown
      | some h' =>
        rintro e w3 ⟨a3, c3, rfl, hb3, hN3⟩
        have HB3 := Lib.hid (HBk.out.trans (hb3.mono hzr))
        have hz3 := hb3.size
        have HBl3 := Lib.hid (((((HBl.out.below hb3 hzn).set_ 0 (.int .i64 D)).set_ 1 (.int .i64 N)).set_ 2 (.slice a3 (termsOf h' (allW D N)).length c3)))
        have HP3 := Lib.hid (HNx.out.trans hv)
        have HR3 := Lib.hid ((((hN3.far1s (n := w2.heap.size) (i := 0) (x := .int .i64 D) hzn).far1s (n := w2.heap.size) (i := 1) (x := .int .i64 N) hzn).far1s (n := w2.heap.size) (i := 2) (x := .slice a3 (termsOf h' (allW D N)).length c3) hzn))
        have hzn3 : w2.heap.size < w3.heap.size := by omega
        have p0 : w3.cell? ⟨w2.heap.size, 0, none⟩ = some (.int .i64 D) := (hb3.cell (p := ⟨w2.heap.size, 0, none⟩) hzn).trans (HBl.out.cell 0)
        have p1 : w3.cell? ⟨w2.heap.size, 1, none⟩ = some (.int .i64 N) := (hb3.cell (p := ⟨w2.heap.size, 1, none⟩) hzn).trans (HBl.out.cell 1)
        have p2 : w3.cell? ⟨w2.heap.size, 2, none⟩ = some (.slice a (termsOf h (allW D N)).length c) := (hb3.cell (p := ⟨w2.heap.size, 2, none⟩) hzn).trans (HBl.out.cell 2)
        have q0 : w3.frozen? ⟨w2.heap.size, 0, none⟩ = false := (hb3.frozen (p := ⟨w2.heap.size, 0, none⟩) hzn).trans (HBl.out.frozen 0)
        have q1 : w3.frozen? ⟨w2.heap.size, 1, none⟩ = false := (hb3.frozen (p := ⟨w2.heap.size, 1, none⟩) hzn).trans (HBl.out.frozen 1)
        have q2 : w3.frozen? ⟨w2.heap.size, 2, none⟩ = false := (hb3.frozen (p := ⟨w2.heap.size, 2, none⟩) hzn).trans (HBl.out.frozen 2)
        clear hb3 hv hN3
        go_wp2
        go_roundw
        case rel =>
          refine ⟨j + 1, a3, (termsOf h' (allW D N)).length, c3, h', hjK, by first | rfl | (congr 1; omega) | go_num, HP3.out, rfl, ?_, ?_, ?_⟩
          · exact HR3.out.mono (by omega) (by simp)
          · exact HBl3.out
          · exact (((HB3.out.setCell (p := ⟨w2.heap.size, 0, none⟩) (by show _ ≤ w2.heap.size; omega) _).setCell (p := ⟨w2.heap.size, 1, none⟩) (by show _ ≤ w2.heap.size; omega) _).setCell (p := ⟨w2.heap.size, 2, none⟩) (by show _ ≤ w2.heap.size; omega) _)
        case measure => simp [intOf]; omega
    · obtain rfl : j = K := by omega
      have hnn : ¬ (j : Int) < (j : Int) := by omega
      have r0 : wr.cell? ⟨w.heap.size + 1, 0, none⟩ = some (.int .i64 0) := (bc.1 _ _ (by omega)).trans (by go_simp)
      have r1 : wr.cell? ⟨w.heap.size + 1, 1, none⟩ = some (.int .i64 0) := (bc.1 _ _ (by omega)).trans (by go_simp)
      have r2 : wr.cell? ⟨w.heap.size + 1, 2, none⟩ = some (.slice none 0 0) := (bc.1 _ _ (by omega)).trans (by go_simp)
      have z0 : wr.frozen? ⟨w.heap.size + 1, 0, none⟩ = false := (bc.2 _ _ (by omega)).trans (by go_simp)
      have z1 : wr.frozen? ⟨w.heap.size + 1, 1, none⟩ = false := (bc.2 _ _ (by omega)).trans (by go_simp)
      have z2 : wr.frozen? ⟨w.heap.size + 1, 2, none⟩ = false := (bc.2 _ _ (by omega)).trans (by go_simp)
      clear bc x0 x1 x2
      go_wp2
      rw [HP.out]
      refine bodyPost_ret (v := .tuple #[.agg #[.int .i64 D, .int .i64 N, .slice a (termsOf h (allW D N)).length c], .int .i64 0]) (by simp [results, Tryz.results16, go_sem, r0, r1, r2]) rfl ⟨a, c, rfl, ?_, ?_⟩
      · have hW := HW.out
        go_grown
      · exact (((HR.out.far1s (n := w.heap.size + 1) (i := 0) (x := .int .i64 D) (by omega)).far1s (n := w.heap.size + 1) (i := 1) (x := .int .i64 N) (by omega)).far1s (n := w.heap.size + 1) (i := 2) (x := .slice a (termsOf h (allW D N)).length c) (by omega)).mono (by omega) (by simp)

end Go.Proofs.YtjloadllckllpaaGreatDoor
